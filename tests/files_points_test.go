package tests

import (
	"bytes"
	"encoding/binary"
	"fmt"
	"math"
	"math/rand"
	"slices"
	"testing"

	"loop.example/g01171/impl"
)

// keysOf tells the keys of points, one behind the other.
func keysOf(points []complex64) []byte {
	var data []byte
	for _, x := range points {
		key := keyForTest(x)
		data = append(data, key[:]...)
	}
	return data
}

func pointFileForTest(points []complex64) []impl.Frame {
	return fileForTest(1, len(points), keysOf(points))
}

// pointOfBytes tells the point of which 8 bytes are the key, if there is one.
func pointOfBytes(data []byte) (complex64, bool) {
	word := func(part []byte) float32 {
		return ofBits(uint32(part[0])<<24 | uint32(part[1])<<16 | uint32(part[2])<<8 | uint32(part[3]))
	}
	x := complex(word(data[:4]), word(data[4:]))
	return x, bytes.Equal(keysOf([]complex64{x}), data)
}

// readPointsForTest tells what ReadPointFile has to return.
func readPointsForTest(list []impl.Frame) ([]complex64, int64) {
	kind, count, data, code := unpackFileForTest(list)
	if code != impl.OK {
		return nil, code
	}
	if kind != 1 || int64(len(data)) != 8*count || count > 256 {
		return nil, impl.ErrSyntax
	}
	var points []complex64
	for ; len(data) > 0; data = data[8:] {
		x, isPoint := pointOfBytes(data[:8])
		if !isPoint {
			return nil, impl.ErrSyntax
		}
		points = append(points, x)
	}
	return points, impl.OK
}

// placesForTest tells the frames in which a point is, byte by byte.
func placesForTest(k int64) []int64 {
	var places []int64
	for at := 8 * k; at < 8*k+8; at++ {
		if place := 1 + at/12; !slices.Contains(places, place) {
			places = append(places, place)
		}
	}
	return places
}

// seekForTest tells what SeekPoint has to return.
func seekForTest(list []impl.Frame, k int64) (complex64, []int64, int64) {
	if len(list) > 700 {
		return 0, nil, impl.ErrLimit
	}
	if len(list) == 0 {
		return 0, nil, impl.ErrSyntax
	}
	if !isSoundForTest(list[0], 0) {
		return 0, nil, impl.ErrProof
	}
	count := int64(binary.BigEndian.Uint32(list[0][4:]))
	if count >= 1<<29 || !bytes.Equal(list[0][:12], headBytes("MPN", 1, uint32(count), uint32(8*count))) {
		return 0, nil, impl.ErrSyntax
	}
	if k < 0 || k >= count {
		return 0, nil, impl.ErrRange
	}
	places := placesForTest(k)
	if places[len(places)-1] >= int64(len(list)) {
		return 0, nil, impl.ErrSyntax
	}
	for _, place := range places {
		if !isSoundForTest(list[place], place) {
			return 0, nil, impl.ErrProof
		}
	}
	x, isPoint := pointOfBytes(payloadsOf(list)[12+8*k : 20+8*k])
	if !isPoint {
		return 0, nil, impl.ErrSyntax
	}
	return x, places, impl.OK
}

// wantSought checks what SeekPoint returns, and tells its code.
func wantSought(t *testing.T, name string, list []impl.Frame, k int64) int64 {
	t.Helper()
	name = fmt.Sprint("SeekPoint ", k, " of ", name)
	x, places, code := impl.SeekPoint(list, k)
	wantX, wantPlaces, wantCode := seekForTest(list, k)
	wantPoint(t, name, x, code, wantX, wantCode)
	wantCounts(t, name, places, code, wantPlaces, wantCode)
	return code
}

func wantSeekCode(t *testing.T, name string, list []impl.Frame, k, want int64) {
	t.Helper()
	wantNumber(t, fmt.Sprint("SeekPoint ", k, " of ", name), wantSought(t, name, list, k), want)
}

// wantReadPoints checks what ReadPointFile returns, and tells its code.
func wantReadPoints(t *testing.T, name string, list []impl.Frame) int64 {
	t.Helper()
	points, code := impl.ReadPointFile(list)
	want, wantCode := readPointsForTest(list)
	wantPoints(t, "ReadPointFile of "+name, points, code, want, wantCode)
	return code
}

func wantReadCode(t *testing.T, name string, list []impl.Frame, want int64) {
	t.Helper()
	wantNumber(t, "ReadPointFile of "+name, wantReadPoints(t, name, list), want)
}

// strangePoints have NaNs of other bits, -0, infinities and subnormal numbers.
func strangePoints() []complex64 {
	list := []complex64{complex(minusZero, 0), complex(0, minusZero), complex(minusZero, minusZero), complex(infinite, minus(infinite)), complex(least, minus(least)), complex(greatest, minus(greatest))}
	for _, word := range []uint32{0x7fc00000, 0x7fc00001, 0x7f800001, 0xffc00000, 0xff800001, 0xffffffff, 0x7fffffff} {
		list = append(list, complex(ofBits(word), 1), complex(-2, ofBits(word)), complex(ofBits(word), ofBits(word)))
	}
	return list
}

func TestPointFiles(t *testing.T) {
	random := rand.New(rand.NewSource(730))
	lists := [][]complex64{nil, {0}, {1, 2}, strangePoints(), edgePoints(), randomPoints(random, 255), randomPoints(random, 256)}
	for n := range 20 {
		lists = append(lists, randomPoints(random, n))
	}
	for _, points := range lists {
		name := fmt.Sprint(len(points), " points")
		list, code := impl.PointFile(points)
		wantFrames(t, "PointFile of "+name, list, code, pointFileForTest(points), impl.OK)
		back, code := impl.ReadPointFile(list)
		wantPoints(t, "ReadPointFile of "+name, back, code, points, impl.OK)
		wantNumber(t, "frames of "+name, int64(len(list)), int64(1+(8*len(points)+11)/12))
		for k := range int64(len(points)) {
			x, places, code := impl.SeekPoint(list, k)
			wantPoint(t, "SeekPoint of "+name, x, code, points[k], impl.OK)
			wantCounts(t, "SeekPoint of "+name, places, code, placesForTest(k), impl.OK)
		}
		for _, k := range []int64{-1, int64(len(points)), int64(len(points)) + 1, 1 << 61, 1 << 32, math.MaxInt64, math.MinInt64, -1 << 61} {
			wantSeekCode(t, name, list, k, impl.ErrRange)
		}
	}
	for _, n := range []int{257, 258, 300, 100000} {
		list, code := impl.PointFile(make([]complex64, n))
		wantFrames(t, fmt.Sprint("PointFile of ", n), list, code, nil, impl.ErrLimit)
	}
}

func TestPointFileByHand(t *testing.T) {
	list, code := impl.PointFile([]complex64{1, complex(minusZero, ofBits(0xff812345))})
	wantNumber(t, "code of PointFile", code, impl.OK)
	want := []byte{77, 80, 78, 1, 0, 0, 0, 2, 0, 0, 0, 16, 0x3f, 0x80, 0, 0, 0, 0, 0, 0, 0x80, 0, 0, 0, 0x7f, 0xc0, 0, 0, 0, 0, 0, 0, 0, 0, 0, 0}
	wantBytes(t, "the payloads of PointFile", payloadsOf(list), 0, want, 0)
	for k, want := range [][]int64{{1}, {1, 2}, {2}, {3}, {3, 4}, {4}, {5}} {
		_, places, code := impl.SeekPoint(pointFileForTest(make([]complex64, 7)), int64(k))
		wantCounts(t, fmt.Sprint("SeekPoint ", k), places, code, want, impl.OK)
	}
}

func TestReadPointFileErrors(t *testing.T) {
	three := keysOf([]complex64{1, 2i, -3})
	wantReadCode(t, "a file", fileForTest(1, 3, three), impl.OK)
	for _, kind := range []byte{2, 3, 0, 4} {
		wantReadCode(t, fmt.Sprint("the kind ", kind), fileForTest(kind, 3, three), impl.ErrSyntax)
		wantReadCode(t, fmt.Sprint("nothing of the kind ", kind), fileForTest(kind, 0, nil), impl.ErrSyntax)
	}
	for _, count := range []int{0, 1, 2, 4, 24, 256, 257} {
		wantReadCode(t, fmt.Sprint("the count ", count), fileForTest(1, count, three), impl.ErrSyntax)
	}
	for _, size := range []int{0, 1, 7, 8, 16, 17, 23} {
		wantReadCode(t, fmt.Sprint(size, " bytes"), fileForTest(1, 3, three[:size]), impl.ErrSyntax)
	}
	wantReadCode(t, "25 bytes", fileForTest(1, 3, append(slices.Clone(three), 0)), impl.ErrSyntax)
	wantReadCode(t, "MaxPoints points", fileForTest(1, 256, make([]byte, 2048)), impl.OK)
	wantReadCode(t, "more than MaxPoints points", fileForTest(1, 257, make([]byte, 2056)), impl.ErrSyntax)
	wantReadCode(t, "no frame", nil, impl.ErrSyntax)
	wantReadCode(t, "a broken file", spoiltAt(fileForTest(1, 3, three), 2), impl.ErrProof)
	wantReadCode(t, "a broken file of another kind", spoiltAt(fileForTest(2, 3, three), 2), impl.ErrProof)
	wantReadCode(t, "too many frames", make([]impl.Frame, 701), impl.ErrLimit)
	wantReadCode(t, "another filling", soundFrames(append(payloadsOf(fileForTest(1, 1, three[:8]))[:23], 1)), impl.ErrSyntax)
	wantReadCode(t, "a frame too many", soundFrames(append(payloadsOf(fileForTest(1, 3, three)), make([]byte, 12)...)), impl.ErrSyntax)
	for _, word := range []uint32{0x7fc00001, 0x7f800001, 0xffc00000, 0xff800001, 0x7fffffff} {
		for at := 0; at < 24; at += 4 {
			data := slices.Clone(three)
			for i := range 4 {
				data[at+i] = byte(word >> (24 - 8*i))
			}
			list := fileForTest(1, 3, data)
			wantReadCode(t, fmt.Sprintf("the word %08x at %d", word, at), list, impl.ErrSyntax)
			for k := range int64(3) {
				want := int64(impl.OK)
				if k == int64(at/8) {
					want = impl.ErrSyntax
				}
				wantSeekCode(t, fmt.Sprintf("the word %08x at %d", word, at), list, k, want)
			}
		}
	}
}

// Frames in which a point is not may be broken, or not be there.
func TestSeekPointLooksAtFewFrames(t *testing.T) {
	points := []complex64{1, 2i, -3, 4 + 4i, 5, -6i, 7, 8}
	list := pointFileForTest(points)
	for k := range int64(len(points)) {
		places := placesForTest(k)
		others := slices.Clone(list)
		for place := 1; place < len(list); place++ {
			if !slices.Contains(places, int64(place)) {
				others[place] = impl.Frame{1, 2, 3}
				wantSeekCode(t, fmt.Sprint("a file broken at ", place), spoiltAt(list, place), k, impl.OK)
				continue
			}
			for bit := range int64(128) {
				spoilt, _ := impl.SpoilFrame(list, int64(place), bit)
				wantSeekCode(t, fmt.Sprint("a file broken at ", place), spoilt, k, impl.ErrProof)
			}
		}
		wantSeekCode(t, "a file with all others broken", others, k, impl.OK)
		last := int(places[len(places)-1])
		wantSeekCode(t, "a file without the frames behind", list[:last+1], k, impl.OK)
		wantSeekCode(t, "a file without the last frame", list[:last], k, impl.ErrSyntax)
		wantSeekCode(t, "a head", list[:1], k, impl.ErrSyntax)
		// Whether frames are there is checked before whether they are sound.
		if len(places) == 2 {
			wantSeekCode(t, "a broken frame and none behind it", spoiltAt(list, last-1)[:last], k, impl.ErrSyntax)
		}
		wantSeekCode(t, "a file with more frames", append(slices.Clone(list), make([]impl.Frame, 50)...), k, impl.OK)
	}
	filled := payloadsOf(list)
	for i := 12 + 8*len(points); i < len(filled); i++ {
		filled[i] = 255
		wantSeekCode(t, "another filling", soundFrames(filled), 7, impl.OK)
		wantReadCode(t, "another filling", soundFrames(filled), impl.ErrSyntax)
	}
}

func TestSeekPointOfOtherHeads(t *testing.T) {
	data := keysOf([]complex64{1, 2, 3})
	with := func(sign string, kind byte, count, size uint32) []impl.Frame {
		return soundFrames(slices.Concat(headBytes(sign, kind, count, size), data))
	}
	wantSeekCode(t, "a file", with("MPN", 1, 3, 24), 2, impl.OK)
	for _, kind := range []byte{0, 2, 3, 4, 129, 255} {
		wantSeekCode(t, fmt.Sprint("the kind ", kind), with("MPN", kind, 3, 24), 0, impl.ErrSyntax)
	}
	for _, sign := range []string{"MPM", "mPN", "MP\x00", "MQN"} {
		wantSeekCode(t, fmt.Sprintf("a head with %q", sign), with(sign, 1, 3, 24), 0, impl.ErrSyntax)
	}
	for _, numbers := range [][2]uint32{{3, 0}, {3, 23}, {3, 25}, {3, 16}, {3, 32}, {2, 24}, {4, 24}, {0, 24}, {256, 24}, {3, 24 + 1<<24}, {3, 24 + 1<<31}, {3 + 1<<29, 24}, {1 << 29, 0}, {3 + 1<<31, 24}, {math.MaxUint32, math.MaxUint32}, {math.MaxUint32, math.MaxUint32 - 7}} {
		for _, k := range []int64{0, -1, 1 << 40} {
			wantSeekCode(t, fmt.Sprint("the numbers ", numbers), with("MPN", 1, numbers[0], numbers[1]), k, impl.ErrSyntax)
		}
	}
	wantSeekCode(t, "the greatest count", fileForTest(1, 256, make([]byte, 2048)), 255, impl.OK)
	wantSeekCode(t, "more than is there", with("MPN", 1, 5, 40), 2, impl.OK)
	wantSeekCode(t, "more than is there", with("MPN", 1, 5, 40), 3, impl.ErrSyntax)
	wantSeekCode(t, "more than is there", with("MPN", 1, 5, 40), 5, impl.ErrRange)
	wantSeekCode(t, "less than is there", with("MPN", 1, 2, 16), 2, impl.ErrRange)
	wantSeekCode(t, "no point", with("MPN", 1, 0, 0), 0, impl.ErrRange)
}

// No file has such counts, but SeekPoint asks for the form of the head alone.
func TestSeekPointOfGreatCounts(t *testing.T) {
	three := keysOf([]complex64{1, 2i, -3})
	for _, count := range []uint32{257, 258, 300, 512, 1023, 1024, 1025, 1 << 16, 1 << 20, 1<<24 + 3, 1 << 28, 1<<29 - 1} {
		name := fmt.Sprint("the count ", count)
		list := soundFrames(slices.Concat(headBytes("MPN", 1, count, 8*count), three))
		for k := range int64(3) {
			wantSeekCode(t, name, list, k, impl.OK)
		}
		for _, k := range []int64{3, 4, 1 << 32, int64(count) - 1} {
			want := int64(impl.ErrSyntax)
			if k >= int64(count) {
				want = impl.ErrRange
			}
			wantSeekCode(t, name, list, k, want)
		}
		for _, k := range []int64{-1, int64(count), int64(count) + 1, math.MinInt64, math.MaxInt64} {
			wantSeekCode(t, name, list, k, impl.ErrRange)
		}
		wantSeekCode(t, name+", broken", spoiltAt(list, 1), 0, impl.ErrProof)
		for _, size := range []uint32{8*count - 1, 8*count + 1, 0, 2400 + 8, 8192} {
			if size != 8*count {
				other := soundFrames(slices.Concat(headBytes("MPN", 1, count, size), three))
				wantSeekCode(t, name+" with other bytes", other, 0, impl.ErrSyntax)
			}
		}
		wantSeekCode(t, name+" of words", soundFrames(slices.Concat(headBytes("MPN", 3, count, 8*count), three)), 0, impl.ErrSyntax)
		wantUnpackCode(t, name, list, impl.ErrSyntax)
		wantReadCode(t, name, list, impl.ErrSyntax)
	}
	// All 2056 bytes are there, and so are the 8388 of MaxFrames frames.
	for _, points := range []int64{257, 1048} {
		full := fileForTest(1, int(points), keysOf(randomPoints(rand.New(rand.NewSource(733)), int(points))))
		name := fmt.Sprint(points, " points")
		for _, k := range []int64{0, 255, 256, points - 1} {
			wantSeekCode(t, name, full, k, impl.OK)
		}
		wantSeekCode(t, name, full, points, impl.ErrRange)
		wantUnpackCode(t, name, full, impl.ErrSyntax)
		wantReadCode(t, name, full, impl.ErrSyntax)
	}
}

func TestSeekPointErrors(t *testing.T) {
	list := pointFileForTest([]complex64{1, 2, 3})
	for _, k := range []int64{0, 1, 2, -1, 3, 1 << 40} {
		wantSeekCode(t, "no frame", nil, k, impl.ErrSyntax)
		wantSeekCode(t, "too many frames", make([]impl.Frame, 701), k, impl.ErrLimit)
		wantSeekCode(t, "very many frames", append(slices.Clone(list), make([]impl.Frame, 50000)...), k, impl.ErrLimit)
		for bit := range int64(128) {
			spoilt, _ := impl.SpoilFrame(list, 0, bit)
			wantSeekCode(t, "a broken head", spoilt, k, impl.ErrProof)
		}
		wantSeekCode(t, "a file without its head", list[1:], k, impl.ErrProof)
		wantSeekCode(t, "a broken head of words", spoiltAt(fileForTest(3, 3, make([]byte, 48)), 0), k, impl.ErrProof)
		wantSeekCode(t, "a head of words", fileForTest(3, 3, make([]byte, 24)), k, impl.ErrSyntax)
	}
	for _, k := range []int64{-1, 3, 1 << 40} {
		wantSeekCode(t, "a file of broken frames", append(list[:1:1], make([]impl.Frame, 2)...), k, impl.ErrRange)
		wantSeekCode(t, "a head alone", list[:1], k, impl.ErrRange)
	}
	full := append(slices.Clone(list), make([]impl.Frame, 697)...)
	wantSeekCode(t, "MaxFrames frames", full, 2, impl.OK)
}

// wantAppended checks what AppendPoints returns.
func wantAppended(t *testing.T, name string, list []impl.Frame, points []complex64) int64 {
	t.Helper()
	there, wantCode := readPointsForTest(list)
	var want []impl.Frame
	if wantCode == impl.OK && len(there)+len(points) > 256 {
		wantCode = impl.ErrLimit
	}
	if wantCode == impl.OK {
		want = pointFileForTest(slices.Concat(there, points))
	}
	more, code := impl.AppendPoints(list, points)
	wantFrames(t, "AppendPoints to "+name, more, code, want, wantCode)
	return code
}

func TestAppendPoints(t *testing.T) {
	random := rand.New(rand.NewSource(731))
	for _, there := range []int{0, 1, 2, 3, 4, 100, 254, 255, 256} {
		points := randomPoints(random, there)
		list := pointFileForTest(points)
		for _, n := range []int{0, 1, 2, 3, 255 - there, 256 - there, 257 - there, 300, 1000} {
			if n < 0 {
				continue
			}
			want := int64(impl.OK)
			if there+n > 256 {
				want = impl.ErrLimit
			}
			name := fmt.Sprint(there, " points: ", n)
			wantNumber(t, "AppendPoints to "+name, wantAppended(t, name, list, randomPoints(random, n)), want)
		}
		wantNumber(t, "AppendPoints of strange points", wantAppended(t, "points", pointFileForTest(points[:there/2]), strangePoints()), impl.OK)
	}
	cases := map[string]struct {
		list []impl.Frame
		want int64
	}{
		"no frame": {nil, impl.ErrSyntax}, "words": {fileForTest(3, 0, nil), impl.ErrSyntax}, "a broken file": {spoiltAt(pointFileForTest([]complex64{1}), 1), impl.ErrProof},
		"a broken head": {spoiltAt(pointFileForTest([]complex64{1}), 0), impl.ErrProof}, "too many frames": {make([]impl.Frame, 701), impl.ErrLimit}, "no key": {fileForTest(1, 1, []byte{0x7f, 0xc0, 0, 1, 0, 0, 0, 0}), impl.ErrSyntax},
	}
	for name, c := range cases {
		for _, n := range []int{0, 1, 257, 100000} {
			wantNumber(t, "AppendPoints to "+name, wantAppended(t, name, c.list, make([]complex64, n)), c.want)
		}
	}
	// Points come one behind the other, however they are appended.
	var list []impl.Frame
	points := randomPoints(random, 40)
	list, _ = impl.PointFile(nil)
	for n := range len(points) {
		list, _ = impl.AppendPoints(list, points[n:n+1])
	}
	wantFrames(t, "points appended one by one", list, 0, pointFileForTest(points), 0)
}

func TestChangedPointFiles(t *testing.T) {
	random := rand.New(rand.NewSource(732))
	codes := map[int64]int{}
	for range 4000 {
		list := pointFileForTest(randomPoints(random, random.Intn(7)))
		if random.Intn(4) > 0 {
			list = changedFile(random, list)
		}
		if random.Intn(4) == 0 && len(list) > 0 {
			list = changedFile(random, list)
		}
		codes[wantReadPoints(t, "a changed file", list)]++
		codes[wantSought(t, "a changed file", list, random.Int63n(9)-1)]++
		wantAppended(t, "a changed file", list, randomPoints(random, random.Intn(3)))
	}
	wantOften(t, codes, 300, impl.OK, impl.ErrRange, impl.ErrProof, impl.ErrSyntax)
}
