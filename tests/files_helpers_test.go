package tests

import (
	"bytes"
	"encoding/binary"
	"hash/fnv"
	"math/rand"
	"slices"
	"testing"

	"loop.example/g01171/impl"
)

// checkForTest tells a check: what the document describes is the hash FNV-1a of index and payload.
func checkForTest(index int64, payload [12]byte) uint32 {
	hash := fnv.New32a()
	hash.Write(binary.BigEndian.AppendUint32(nil, uint32(index)))
	hash.Write(payload[:])
	return hash.Sum32()
}

func frameForTest(index int64, payload [12]byte) impl.Frame {
	var f impl.Frame
	copy(f[:], payload[:])
	binary.BigEndian.PutUint32(f[12:], checkForTest(index, payload))
	return f
}

// payloadForTest has so many of the bytes as there is room for.
func payloadForTest(data []byte) [12]byte {
	var payload [12]byte
	copy(payload[:], data)
	return payload
}

func isSoundForTest(f impl.Frame, index int64) bool {
	return f == frameForTest(index, payloadForTest(f[:]))
}

// soundFrames tells sound frames with all bytes, be they a file or not.
func soundFrames(all []byte) []impl.Frame {
	var list []impl.Frame
	for part := range slices.Chunk(all, 12) {
		list = append(list, frameForTest(int64(len(list)), payloadForTest(part)))
	}
	return list
}

// headBytes may be no head.
func headBytes(sign string, kind byte, count, size uint32) []byte {
	data := append([]byte(sign), kind)
	data = binary.BigEndian.AppendUint32(data, count)
	return binary.BigEndian.AppendUint32(data, size)
}

// fileForTest tells the file of some data, be there such files or not.
func fileForTest(kind byte, count int, data []byte) []impl.Frame {
	return soundFrames(slices.Concat(headBytes("MPN", kind, uint32(count), uint32(len(data))), data))
}

// payloadsOf tells all payloads, one behind the other.
func payloadsOf(list []impl.Frame) []byte {
	var all []byte
	for _, f := range list {
		all = append(all, f[:12]...)
	}
	return all
}

func brokenForTest(list []impl.Frame) []int64 {
	var places []int64
	for i, f := range list {
		if !isSoundForTest(f, int64(i)) {
			places = append(places, int64(i))
		}
	}
	return places
}

// unpackFileForTest tells what UnpackFrames has to return.
func unpackFileForTest(list []impl.Frame) (int64, int64, []byte, int64) {
	if len(list) > 700 {
		return 0, 0, nil, impl.ErrLimit
	}
	if len(brokenForTest(list)) > 0 {
		return 0, 0, nil, impl.ErrProof
	}
	all := payloadsOf(list)
	if len(all) == 0 || string(all[:3]) != "MPN" {
		return 0, 0, nil, impl.ErrSyntax
	}
	kind, count, size := int64(all[3]), int64(binary.BigEndian.Uint32(all[4:])), int64(binary.BigEndian.Uint32(all[8:]))
	behind := int64(len(all)) - 12 - size
	if kind < 1 || kind > 3 || count > 256 || size > 8192 || behind < 0 || behind > 11 {
		return 0, 0, nil, impl.ErrSyntax
	}
	data, filling := all[12:12+size], all[12+size:]
	if bytes.Count(filling, []byte{0}) < len(filling) {
		return 0, 0, nil, impl.ErrSyntax
	}
	return kind, count, data, impl.OK
}

// spoiltAt tells the frames in which a bit of those at some places is changed.
func spoiltAt(list []impl.Frame, places ...int) []impl.Frame {
	spoilt := slices.Clone(list)
	for _, place := range places {
		spoilt[place][(7*place)%16] ^= 1 << (place % 8)
	}
	return spoilt
}

func randomBytes(random *rand.Rand, n int) []byte {
	data := make([]byte, n)
	random.Read(data)
	return data
}

func randomPayload(random *rand.Rand) [12]byte {
	payload := payloadForTest(randomBytes(random, 12))
	for i := range payload {
		if random.Intn(4) == 0 {
			payload[i] = byte(-random.Intn(2))
		}
	}
	return payload
}

// anyFile is one of points, of a picture or of words, with as many of these as there may be, at times.
func anyFile(random *rand.Rand) []impl.Frame {
	most := []int{3, 20, 257}[random.Intn(3)]
	switch random.Intn(3) {
	case 0:
		return pointFileForTest(randomPoints(random, random.Intn(most)))
	case 1:
		return pictureFileForTest(pictureOfSet(setOf(randomCells(random, random.Intn(most))...)))
	}
	words := make([]string, random.Intn(most))
	for i := range words {
		words[i] = anyWord(random)
	}
	return wordFileForTest(words)
}

// changedFile has a byte, a frame, or the number of frames changed, and mostly is sound all the same.
func changedFile(random *rand.Rand, list []impl.Frame) []impl.Frame {
	all := payloadsOf(list)
	at := random.Intn(len(all))
	switch random.Intn(7) {
	case 0:
		all[at] = byte(random.Uint32())
	case 1:
		all[at] += byte(1 - 2*random.Intn(2))
	case 2:
		at = random.Intn(12)
		all[at] ^= 1 << random.Intn(8)
	case 3:
		all = all[:at]
	case 4:
		all = append(all, make([]byte, 12*random.Intn(3))...)
	case 5:
		all[len(all)-1-random.Intn(min(12, len(all)))]++
	case 6:
		return spoiltAt(list, random.Intn(len(list)))
	}
	return soundFrames(all)
}

// guardedFrames returns a list with room behind it, and a function that reports whether list and room are as before.
func guardedFrames(list []impl.Frame) ([]impl.Frame, func() bool) {
	whole := append(slices.Clone(list), slices.Repeat([]impl.Frame{{77, 78}}, 16)...)
	before := slices.Clone(whole)
	return whole[:len(list)], func() bool { return slices.Equal(whole, before) }
}

// guardedBytes does the same for bytes.
func guardedBytes(data []byte) ([]byte, func() bool) {
	whole := append(slices.Clone(data), slices.Repeat([]byte{77}, 32)...)
	before := slices.Clone(whole)
	return whole[:len(data)], func() bool { return bytes.Equal(whole, before) }
}

func wantFrames(t *testing.T, name string, got []impl.Frame, code int64, want []impl.Frame, wantCode int64) {
	t.Helper()
	if !slices.Equal(got, want) || code != wantCode {
		t.Errorf("%s: got %d frames and %s, want %d frames and %s", name, len(got), impl.CodeName(code), len(want), impl.CodeName(wantCode))
		for i := range min(len(got), len(want)) {
			if got[i] != want[i] {
				t.Errorf("%s: the frame %d is %v instead of %v", name, i, got[i], want[i])
				break
			}
		}
	}
}

func wantBytes(t *testing.T, name string, got []byte, code int64, want []byte, wantCode int64) {
	t.Helper()
	if !bytes.Equal(got, want) || code != wantCode {
		t.Errorf("%s: got %v and %s, want %v and %s", name, got, impl.CodeName(code), want, impl.CodeName(wantCode))
	}
}

// wantUnpackedFile checks what UnpackFrames returns, and tells its code.
func wantUnpackedFile(t *testing.T, name string, list []impl.Frame) int64 {
	t.Helper()
	kind, count, data, code := impl.UnpackFrames(list)
	wantKind, wantNumberOf, wantData, wantCode := unpackFileForTest(list)
	if kind != wantKind || count != wantNumberOf || !bytes.Equal(data, wantData) || code != wantCode {
		t.Errorf("UnpackFrames of %s: got %d, %d, %v and %s, want %d, %d, %v and %s", name, kind, count, data, impl.CodeName(code), wantKind, wantNumberOf, wantData, impl.CodeName(wantCode))
	}
	return code
}

// wantOften checks that each of some codes has been returned so often at least.
func wantOften(t *testing.T, codes map[int64]int, least int, list ...int64) {
	t.Helper()
	for _, code := range list {
		if codes[code] < least {
			t.Errorf("only %d calls returned %s", codes[code], impl.CodeName(code))
		}
	}
}
