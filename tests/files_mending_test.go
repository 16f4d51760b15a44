package tests

import (
	"fmt"
	"math"
	"math/rand"
	"slices"
	"testing"

	"loop.example/g01171/impl"
)

func wantBroken(t *testing.T, name string, list []impl.Frame, want []int64, wantCode int64) {
	t.Helper()
	places, code := impl.BrokenFrames(list)
	wantCounts(t, "BrokenFrames of "+name, places, code, want, wantCode)
}

func TestBrokenFrames(t *testing.T) {
	list := fileForTest(2, 9, make([]byte, 100))
	last := len(list) - 1
	wantBroken(t, "a file", list, nil, impl.OK)
	wantBroken(t, "no frame", nil, nil, impl.OK)
	for _, places := range [][]int{{0}, {1}, {last}, {0, 1}, {last - 1, last}, {0, last}, {3, 4, 5}, {0, 4, last}, {0, 2, 4, 6, 8}, {0, 1, 2, 3, 4, 5, 6, 7, 8, 9}} {
		var want []int64
		for _, place := range places {
			want = append(want, int64(place))
		}
		wantBroken(t, fmt.Sprint("frames broken at ", places), spoiltAt(list, places...), want, impl.OK)
	}
	for at := range list {
		for bit := range int64(128) {
			spoilt, _ := impl.SpoilFrame(list, int64(at), bit)
			wantBroken(t, fmt.Sprint("the bit ", bit, " of ", at), spoilt, []int64{int64(at)}, impl.OK)
		}
	}
	wantBroken(t, "sound frames at other places", list[1:], []int64{0, 1, 2, 3, 4, 5, 6, 7, 8}, impl.OK)
	wantBroken(t, "frames that are no file", soundFrames(make([]byte, 50)), nil, impl.OK)
	full := soundFrames(make([]byte, 8400))
	wantBroken(t, "MaxFrames frames", full, nil, impl.OK)
	wantBroken(t, "MaxFrames frames, the last one being broken", spoiltAt(full, 699), []int64{699}, impl.OK)
	var all []int64
	for i := range int64(700) {
		all = append(all, i)
	}
	wantBroken(t, "MaxFrames broken frames", make([]impl.Frame, 700), all, impl.OK)
	wantBroken(t, "too many frames", append(full, full[0]), nil, impl.ErrLimit)
	wantBroken(t, "very many frames", make([]impl.Frame, 60000), nil, impl.ErrLimit)
}

func TestRandomBrokenFrames(t *testing.T) {
	random := rand.New(rand.NewSource(720))
	for range 500 {
		list := soundFrames(randomBytes(random, random.Intn(200)))
		for i := range list {
			if random.Intn(3) == 0 {
				list[i][random.Intn(16)] = byte(random.Uint32())
			}
		}
		wantBroken(t, "random frames", list, brokenForTest(list), impl.OK)
	}
}

func TestSpoilFrame(t *testing.T) {
	random := rand.New(rand.NewSource(721))
	list := soundFrames(randomBytes(random, 60))
	for at := range list {
		for bit := range 128 {
			want := slices.Clone(list)
			want[at][bit/8] ^= byte(1) << (bit - bit/8*8)
			name := fmt.Sprint("SpoilFrame ", at, " and ", bit)
			spoilt, code := impl.SpoilFrame(list, int64(at), int64(bit))
			wantFrames(t, name, spoilt, code, want, impl.OK)
			back, code := impl.SpoilFrame(spoilt, int64(at), int64(bit))
			wantFrames(t, name+" twice", back, code, list, impl.OK)
		}
	}
	spoilt, code := impl.SpoilFrame([]impl.Frame{{}}, 0, 0)
	wantFrames(t, "the first bit", spoilt, code, []impl.Frame{{1}}, impl.OK)
	spoilt, code = impl.SpoilFrame([]impl.Frame{{}, {}}, 1, 8)
	wantFrames(t, "the bit 8", spoilt, code, []impl.Frame{{}, {1: 1}}, impl.OK)
	spoilt, code = impl.SpoilFrame([]impl.Frame{{15: 0x81}}, 0, 127)
	wantFrames(t, "the last bit", spoilt, code, []impl.Frame{{15: 1}}, impl.OK)
}

func TestSpoilFrameErrors(t *testing.T) {
	list := soundFrames(make([]byte, 48))
	far := []int64{-1, 1 << 32, 1<<32 + 1, -1 << 32, math.MaxInt64, math.MinInt64}
	wantError := func(list []impl.Frame, at, bit, want int64) {
		spoilt, code := impl.SpoilFrame(list, at, bit)
		wantFrames(t, fmt.Sprint("SpoilFrame ", at, " and ", bit), spoilt, code, nil, want)
	}
	for _, at := range append(far, 4, 5) {
		wantError(list, at, 0, impl.ErrRange)
		wantError(list, at, 128, impl.ErrRange)
	}
	for _, bit := range append(far, 128, 129, -128) {
		wantError(list, 0, bit, impl.ErrRange)
		wantError(list, 3, bit, impl.ErrRange)
	}
	wantError(nil, 0, 0, impl.ErrRange)
	full := soundFrames(make([]byte, 8400))
	spoilt, code := impl.SpoilFrame(full, 699, 3)
	wantFrames(t, "SpoilFrame of MaxFrames", spoilt[:699], code, full[:699], impl.OK)
	wantError(full, 700, 3, impl.ErrRange)
	wantError(append(full, impl.Frame{}), 0, 0, impl.ErrLimit)
	wantError(append(full, impl.Frame{}), -1, 128, impl.ErrLimit)
}

func wantMended(t *testing.T, name string, list, other, want []impl.Frame, wantNumberOf, wantCode int64) {
	t.Helper()
	mended, n, code := impl.MendFrames(list, other)
	wantFrames(t, "MendFrames of "+name, mended, code, want, wantCode)
	wantNumber(t, "number of mended frames of "+name, n, wantNumberOf)
}

func TestMendFrames(t *testing.T) {
	list := fileForTest(1, 3, []byte("a file that is mended, or is not, by others of this kind"))
	other := fileForTest(3, 5, []byte("another one, which is sound, with as many frames: six."))
	last := len(list) - 1
	mixed := slices.Clone(list)
	mixed[2] = other[2]
	wantMended(t, "a file by itself", list, list, list, 0, impl.OK)
	wantMended(t, "a sound file by another one", list, other, list, 0, impl.OK)
	wantMended(t, "a sound file by nothing", list, nil, list, 0, impl.OK)
	wantMended(t, "nothing by a file", nil, list, nil, 0, impl.OK)
	wantMended(t, "nothing by nothing", nil, nil, nil, 0, impl.OK)
	wantMended(t, "a broken file by nothing", spoiltAt(list, 1, 3), nil, spoiltAt(list, 1, 3), 0, impl.OK)
	wantMended(t, "a broken file by its copy", spoiltAt(list, 0, 1, last), list, list, 3, impl.OK)
	wantMended(t, "a broken file by another one", spoiltAt(list, 2), other, mixed, 1, impl.OK)
	wantMended(t, "all frames", make([]impl.Frame, len(list)), list, list, int64(len(list)), impl.OK)
	wantMended(t, "all frames by a shorter list", make([]impl.Frame, len(list)), list[:2], append(slices.Clone(list[:2]), make([]impl.Frame, last-1)...), 2, impl.OK)
	wantMended(t, "frames behind a shorter list", spoiltAt(list, 1, 3), list[:3], spoiltAt(list, 3), 1, impl.OK)
	wantMended(t, "the frame just behind a shorter list", spoiltAt(list, 3), list[:3], spoiltAt(list, 3), 0, impl.OK)
	wantMended(t, "the last frame of a shorter list", spoiltAt(list, 2), list[:3], list, 1, impl.OK)
	wantMended(t, "a short list by a longer one", spoiltAt(list, 0, 2)[:3], list, list[:3], 2, impl.OK)
	wantMended(t, "what is broken in both", spoiltAt(list, 1, 2, 4), spoiltAt(list, 0, 2, 5), spoiltAt(list, 2), 2, impl.OK)
	wantMended(t, "what is broken in the same way", spoiltAt(list, 1), spoiltAt(list, 1), spoiltAt(list, 1), 0, impl.OK)
	// What is broken in both lists stays as it is in the first one.
	twice := spoiltAt(list, 1)
	twice[1][3]++
	wantMended(t, "what is broken in two ways", spoiltAt(list, 1), twice, spoiltAt(list, 1), 0, impl.OK)
	// A frame is sound just at its own place.
	moved := append([]impl.Frame{list[1]}, list[:last]...)
	wantMended(t, "frames by those at other places", spoiltAt(list, 0, 2, 3), moved, spoiltAt(list, 0, 2, 3), 0, impl.OK)
	back := slices.Clone(list)
	back[1], back[2] = list[2], list[1]
	wantMended(t, "frames at other places", back, list, list, 2, impl.OK)
}

func TestMendFramesOfTooManyFrames(t *testing.T) {
	full := soundFrames(make([]byte, 8400))
	tooMany := append(slices.Clone(full), impl.Frame{})
	wantMended(t, "MaxFrames frames", spoiltAt(full, 0, 350, 699), full, full, 3, impl.OK)
	wantMended(t, "too many frames", tooMany, full, nil, 0, impl.ErrLimit)
	wantMended(t, "frames by too many", full, tooMany, nil, 0, impl.ErrLimit)
	wantMended(t, "no frame by too many", nil, tooMany, nil, 0, impl.ErrLimit)
	wantMended(t, "too many frames by none", tooMany, nil, nil, 0, impl.ErrLimit)
	wantMended(t, "too many frames by too many", tooMany, make([]impl.Frame, 60000), nil, 0, impl.ErrLimit)
}

// What is mended by a copy whose frames are broken at other places is the file.
func TestMendedFilesAreTheFiles(t *testing.T) {
	random := rand.New(rand.NewSource(722))
	for range 400 {
		list := anyFile(random)
		first, second, broken := slices.Clone(list), slices.Clone(list), int64(0)
		for i := range list {
			bit := random.Int63n(128)
			switch random.Intn(4) {
			case 0:
				first, _ = impl.SpoilFrame(first, int64(i), bit)
				broken++
			case 1:
				second, _ = impl.SpoilFrame(second, int64(i), bit)
			}
		}
		wantMended(t, "a copy", first, second, list, broken, impl.OK)
		wantUnpackedFile(t, "what is mended", list)
	}
}

// framesOfFull tells the frames of bytes of which none is left.
func framesOfFull(data []byte) []impl.Frame {
	list := make([]impl.Frame, len(data)/16)
	for i := range data {
		list[i/16][i%16] = data[i]
	}
	return list
}

func TestBytesOfFrames(t *testing.T) {
	random := rand.New(rand.NewSource(723))
	for _, n := range []int{0, 1, 2, 17, 699, 700} {
		want := randomBytes(random, 16*n)
		data, code := impl.BytesOfFrames(framesOfFull(want))
		wantBytes(t, fmt.Sprint("BytesOfFrames of ", n), data, code, want, impl.OK)
	}
	for _, n := range []int{701, 60000} {
		data, code := impl.BytesOfFrames(make([]impl.Frame, n))
		wantBytes(t, fmt.Sprint("BytesOfFrames of ", n), data, code, nil, impl.ErrLimit)
	}
}

func TestFramesOfBytes(t *testing.T) {
	random := rand.New(rand.NewSource(724))
	for _, length := range []int{0, 1, 15, 16, 17, 31, 32, 33, 100, 11183, 11184, 11199, 11200, 11201, 11215} {
		data := randomBytes(random, length)
		left := length % 16
		list, rest, code := impl.FramesOfBytes(data)
		wantFrames(t, fmt.Sprint("FramesOfBytes of ", length), list, code, framesOfFull(data[:length-left]), impl.OK)
		wantNumber(t, fmt.Sprint("bytes that are left of ", length), rest, int64(left))
		back, code := impl.BytesOfFrames(list)
		wantBytes(t, "BytesOfFrames of FramesOfBytes", back, code, data[:length-left], impl.OK)
	}
	for _, length := range []int{11216, 11217, 11232, 1000000} {
		list, rest, code := impl.FramesOfBytes(make([]byte, length))
		wantFrames(t, fmt.Sprint("FramesOfBytes of ", length), list, code, nil, impl.ErrLimit)
		wantNumber(t, "bytes that are left together with an error", rest, 0)
	}
	// What is made of bytes need not be sound.
	file := fileForTest(1, 2, []byte{1, 2, 3})
	data, _ := impl.BytesOfFrames(spoiltAt(file, 1))
	list, _, code := impl.FramesOfBytes(data)
	wantFrames(t, "frames that are not sound", list, code, spoiltAt(file, 1), impl.OK)
}
