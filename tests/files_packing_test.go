package tests

import (
	"bytes"
	"fmt"
	"math"
	"math/rand"
	"slices"
	"testing"

	"loop.example/g01171/impl"
)

func TestPackFrames(t *testing.T) {
	random := rand.New(rand.NewSource(710))
	lengths := []int{0, 1, 2, 11, 12, 13, 23, 24, 25, 36, 255, 256, 257, 1000, 3072, 8180, 8181, 8191, 8192}
	for _, length := range lengths {
		for _, kind := range []int64{impl.FkPoints, impl.FkPicture, impl.FkWords} {
			for _, count := range []int64{0, 1, 2, 255, 256} {
				name := fmt.Sprint("PackFrames of ", kind, ", ", count, " and ", length, " bytes")
				for _, data := range [][]byte{randomBytes(random, length), make([]byte, length), bytes.Repeat([]byte{255}, length)} {
					list, code := impl.PackFrames(kind, count, data)
					wantFrames(t, name, list, code, fileForTest(byte(kind), int(count), data), impl.OK)
					wantNumber(t, name, int64(len(list)), int64(1+(length+11)/12))
					backKind, backCount, back, code := impl.UnpackFrames(list)
					wantBytes(t, name+", unpacked", back, code, data, impl.OK)
					wantCount(t, name+", unpacked", backKind, backCount, kind, count)
				}
			}
		}
	}
}

func TestPackFramesByHand(t *testing.T) {
	list, code := impl.PackFrames(impl.FkWords, 256, []byte{1, 2, 3, 4, 5, 6, 7, 8, 9, 10, 11, 12, 255})
	wantNumber(t, "code", code, impl.OK)
	want := [][]byte{{77, 80, 78, 3, 0, 0, 1, 0, 0, 0, 0, 13}, {1, 2, 3, 4, 5, 6, 7, 8, 9, 10, 11, 12}, {255, 0, 0, 0, 0, 0, 0, 0, 0, 0, 0, 0}}
	wantBytes(t, "payloads", payloadsOf(list), 0, slices.Concat(want...), 0)
	list, code = impl.PackFrames(impl.FkPicture, 0, make([]byte, 8192))
	wantNumber(t, "code", code, impl.OK)
	wantNumber(t, "frames of MaxBytes", int64(len(list)), 684)
	wantBytes(t, "head of MaxBytes", payloadsOf(list[:1]), 0, []byte{77, 80, 78, 2, 0, 0, 0, 0, 0, 0, 32, 0}, 0)
}

func TestPackFramesErrors(t *testing.T) {
	cases := []struct {
		kind, count int64
		size        int
		want        int64
	}{
		{0, 0, 0, impl.ErrRange}, {4, 0, 0, impl.ErrRange}, {-1, 0, 0, impl.ErrRange}, {257, 0, 0, impl.ErrRange}, {1 << 32, 0, 0, impl.ErrRange}, {1<<32 + 1, 0, 0, impl.ErrRange}, {math.MaxInt64, 0, 0, impl.ErrRange}, {math.MinInt64, 0, 0, impl.ErrRange},
		{1, -1, 0, impl.ErrRange}, {1, 257, 0, impl.ErrRange}, {2, 257, 12, impl.ErrRange}, {3, -1, 1, impl.ErrRange}, {3, 1 << 32, 0, impl.ErrRange}, {3, 1<<32 + 1, 0, impl.ErrRange}, {2, math.MaxInt64, 0, impl.ErrRange}, {2, math.MinInt64, 0, impl.ErrRange},
		{1, 0, 8193, impl.ErrLimit}, {3, 256, 8193, impl.ErrLimit}, {2, 64, 8400, impl.ErrLimit}, {2, 0, 1000000, impl.ErrLimit},
		{0, 0, 8193, impl.ErrRange}, {4, 0, 1000000, impl.ErrRange}, {1, 257, 8193, impl.ErrRange}, {1, -1, 8193, impl.ErrRange}, {0, -1, 8193, impl.ErrRange},
		{1, 256, 8192, impl.OK}, {3, 0, 8192, impl.OK}, {2, 256, 0, impl.OK},
	}
	for _, c := range cases {
		data := make([]byte, c.size)
		list, code := impl.PackFrames(c.kind, c.count, data)
		var want []impl.Frame
		if c.want == impl.OK {
			want = fileForTest(byte(c.kind), int(c.count), data)
		}
		wantFrames(t, fmt.Sprint("PackFrames of ", c.kind, ", ", c.count, " and ", c.size, " bytes"), list, code, want, c.want)
	}
}

// wantUnpackCode checks what UnpackFrames returns of a list of which it has to return an error.
func wantUnpackCode(t *testing.T, name string, list []impl.Frame, want int64) {
	t.Helper()
	wantNumber(t, "UnpackFrames of "+name, wantUnpackedFile(t, name, list), want)
}

func TestUnpackFramesOfOtherHeads(t *testing.T) {
	data := []byte{1, 2, 3, 4, 5, 6, 7, 8, 9, 10, 11, 12, 13}
	with := func(head []byte) []impl.Frame { return soundFrames(slices.Concat(head, data)) }
	wantUnpackCode(t, "a file", with(headBytes("MPN", 2, 7, 13)), impl.OK)
	wantUnpackCode(t, "a file with the greatest count", with(headBytes("MPN", 2, 256, 13)), impl.OK)
	for _, sign := range []string{"mPN", "MpN", "MPn", "MPM", "\x00PN", "M\x00N", "MP\x00", "NPM", "PMN", "\x00\x00\x00", "\xff\xff\xff"} {
		wantUnpackCode(t, fmt.Sprintf("a head with %q", sign), with(headBytes(sign, 2, 7, 13)), impl.ErrSyntax)
	}
	for _, kind := range []byte{0, 4, 5, 128, 129, 255, '1'} {
		wantUnpackCode(t, fmt.Sprint("the kind ", kind), with(headBytes("MPN", kind, 7, 13)), impl.ErrSyntax)
	}
	for _, count := range []uint32{257, 258, 512, 1 << 16, 1 << 24, 1<<24 + 7, 1 << 31, 1<<31 + 7, math.MaxUint32} {
		wantUnpackCode(t, fmt.Sprint("the count ", count), with(headBytes("MPN", 2, count, 13)), impl.ErrSyntax)
	}
	// The bytes 0 behind the last one may be data as well as what fills up the frame.
	for size := uint32(13); size <= 24; size++ {
		wantUnpackCode(t, fmt.Sprint("the size ", size), with(headBytes("MPN", 2, 7, size)), impl.OK)
	}
	for _, size := range []uint32{0, 1, 11, 12, 25, 26, 36, 13 + 1<<8, 13 + 1<<16, 13 + 1<<24, 13 + 1<<31, 1 << 31, math.MaxUint32, math.MaxUint32 - 12} {
		wantUnpackCode(t, fmt.Sprint("the size ", size), with(headBytes("MPN", 2, 7, size)), impl.ErrSyntax)
	}
	wantUnpackCode(t, "data without a head", soundFrames(data), impl.ErrSyntax)
	wantUnpackCode(t, "frames without anything", soundFrames(make([]byte, 36)), impl.ErrSyntax)
}

// The last frame is filled up with 0, and with nothing else.
func TestUnpackFramesOfOtherFillings(t *testing.T) {
	for size := range 30 {
		list := fileForTest(1, 3, bytes.Repeat([]byte{9}, size))
		wantUnpackCode(t, fmt.Sprint(size, " bytes"), list, impl.OK)
		all := payloadsOf(list)
		for at := 12; at < len(all); at++ {
			for _, b := range []byte{1, 128, 255, 0} {
				changed := slices.Clone(all)
				changed[at] = b
				want := int64(impl.OK)
				if at >= 12+size && b != 0 {
					want = impl.ErrSyntax
				}
				wantUnpackCode(t, fmt.Sprint(size, " bytes with ", b, " at ", at), soundFrames(changed), want)
			}
		}
		for _, more := range []int{12, 24, 120} {
			wantUnpackCode(t, fmt.Sprint(size, " bytes and ", more, " more"), soundFrames(slices.Concat(all, make([]byte, more))), impl.ErrSyntax)
		}
		if size > 0 {
			wantUnpackCode(t, fmt.Sprint(size, " bytes without the last frame"), list[:len(list)-1], impl.ErrSyntax)
		}
	}
}

func TestUnpackFramesOfTooMuch(t *testing.T) {
	wantUnpackCode(t, "no frame", nil, impl.ErrSyntax)
	wantUnpackCode(t, "MaxBytes", fileForTest(1, 256, make([]byte, 8192)), impl.OK)
	for _, size := range []int{8193, 8195, 8196, 8197, 8388} {
		wantUnpackCode(t, fmt.Sprint(size, " bytes"), fileForTest(1, 256, make([]byte, size)), impl.ErrSyntax)
	}
	wantUnpackCode(t, "more than MaxFrames", fileForTest(1, 256, make([]byte, 8389)), impl.ErrLimit)
	wantUnpackCode(t, "very many frames", make([]impl.Frame, 60000), impl.ErrLimit)
	// Errors are checked in their order.
	wantUnpackCode(t, "many broken frames", make([]impl.Frame, 701), impl.ErrLimit)
	wantUnpackCode(t, "MaxFrames broken frames", make([]impl.Frame, 700), impl.ErrProof)
	other := soundFrames(headBytes("XYZ", 9, 1000, 100))
	wantUnpackCode(t, "another head", other, impl.ErrSyntax)
	wantUnpackCode(t, "another head, which is broken", spoiltAt(other, 0), impl.ErrProof)
	wantUnpackCode(t, "a broken frame too many", spoiltAt(soundFrames(append(headBytes("MPN", 1, 0, 0), 0)), 1), impl.ErrProof)
	wantUnpackCode(t, "a broken frame and one too few", spoiltAt(fileForTest(1, 3, make([]byte, 30)), 1)[:3], impl.ErrProof)
}

func TestUnpackFramesOfBrokenFrames(t *testing.T) {
	list := fileForTest(3, 5, bytes.Repeat([]byte{1, 2, 3}, 30))
	last := len(list) - 1
	for _, places := range [][]int{{0}, {1}, {last}, {last - 1}, {4}, {0, last}, {1, 2, 3}, {0, 4, last}} {
		wantUnpackCode(t, fmt.Sprint("frames broken at ", places), spoiltAt(list, places...), impl.ErrProof)
	}
	for bit := range int64(128) {
		for at := range list {
			spoilt, code := impl.SpoilFrame(list, int64(at), bit)
			wantNumber(t, "SpoilFrame", code, impl.OK)
			wantUnpackCode(t, fmt.Sprint("a frame broken at ", at), spoilt, impl.ErrProof)
		}
	}
	moved := slices.Clone(list)
	moved[2], moved[3] = moved[3], moved[2]
	wantUnpackCode(t, "two frames exchanged", moved, impl.ErrProof)
	wantUnpackCode(t, "a file without its head", list[1:], impl.ErrProof)
}

func TestUnpackFramesOfChangedFiles(t *testing.T) {
	random := rand.New(rand.NewSource(711))
	codes := map[int64]int{}
	for range 3000 {
		list := fileForTest(byte(1+random.Intn(3)), random.Intn(257), randomBytes(random, random.Intn(60)))
		codes[wantUnpackedFile(t, "a file", list)]++
		codes[wantUnpackedFile(t, "a changed file", changedFile(random, list))]++
	}
	wantOften(t, codes, 300, impl.OK, impl.ErrProof, impl.ErrSyntax)
}
