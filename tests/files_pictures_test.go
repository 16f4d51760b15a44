package tests

import (
	"encoding/binary"
	"fmt"
	"math"
	"math/rand"
	"slices"
	"testing"

	"loop.example/g01171/impl"
)

// blockBytes tells the bytes of a block with such bytes of its mask.
func blockBytes(at impl.Corner, mask []byte) []byte {
	data := binary.BigEndian.AppendUint32(nil, uint32(at[0]))
	data = binary.BigEndian.AppendUint32(data, uint32(at[1]))
	return append(append(data, byte(len(mask))), mask...)
}

func pictureBytes(list []impl.Block) []byte {
	var data []byte
	for _, b := range list {
		data = append(data, blockBytes(b.At, packForTest(b.Mask))...)
	}
	return data
}

func pictureFileForTest(list []impl.Block) []impl.Frame {
	return fileForTest(2, len(list), pictureBytes(list))
}

// blocksOfBytes tells the blocks with some bytes, if there are such.
func blocksOfBytes(data []byte) ([]impl.Block, bool) {
	if len(data) == 0 {
		return nil, true
	}
	if len(data) < 10 {
		return nil, false
	}
	end := 9 + int(data[8])
	if data[8] == 0 {
		end = 9 + 256
	}
	if end > len(data) {
		return nil, false
	}
	m, code := unpackForTest(data[9:end])
	behind, areBlocks := blocksOfBytes(data[end:])
	at := impl.Corner{int32(binary.BigEndian.Uint32(data)), int32(binary.BigEndian.Uint32(data[4:]))}
	return append([]impl.Block{{At: at, Mask: m}}, behind...), areBlocks && code == impl.OK
}

// isPictureForTest makes the picture of all cells, and holds it against the list.
func isPictureForTest(list []impl.Block) bool {
	for _, b := range list {
		for _, n := range b.At {
			if n < -62501 || n > 62500 {
				return false
			}
		}
	}
	cells := setOfBlocks(list)
	isFar := func(x, y int64) bool { return max(x, -x, y, -y) > 1000000 }
	return len(list) <= 64 && len(cells.picked(isFar)) == 0 && slices.Equal(list, pictureOfSet(cells))
}

// readPictureForTest tells what ReadPictureFile has to return.
func readPictureForTest(list []impl.Frame) ([]impl.Block, int64) {
	kind, count, data, code := unpackFileForTest(list)
	if code != impl.OK {
		return nil, code
	}
	picture, areBlocks := blocksOfBytes(data)
	if kind != 2 || !areBlocks || int64(len(picture)) != count || !isPictureForTest(picture) {
		return nil, impl.ErrSyntax
	}
	return picture, impl.OK
}

// wantReadPicture checks what ReadPictureFile returns, and tells its code.
func wantReadPicture(t *testing.T, name string, list []impl.Frame) int64 {
	t.Helper()
	picture, code := impl.ReadPictureFile(list)
	want, wantCode := readPictureForTest(list)
	wantPicture(t, "ReadPictureFile of "+name, picture, code, want, wantCode)
	return code
}

func wantPictureCode(t *testing.T, name string, list []impl.Frame, want int64) {
	t.Helper()
	wantNumber(t, "ReadPictureFile of "+name, wantReadPicture(t, name, list), want)
}

// checkPictureFile checks the file of a picture, and that it is read.
func checkPictureFile(t *testing.T, name string, picture []impl.Block) {
	t.Helper()
	list, code := impl.PictureFile(picture)
	wantFrames(t, "PictureFile of "+name, list, code, pictureFileForTest(picture), impl.OK)
	back, code := impl.ReadPictureFile(list)
	wantPicture(t, "ReadPictureFile of "+name, back, code, picture, impl.OK)
}

// longestMask has every other cell, from the first one on, so that 256 bytes tell it.
func longestMask() impl.Mask { return impl.Mask(slices.Repeat([]uint16{0x5555}, 16)) }

// maskOfLength is told by so many bytes: it has every other cell, and behind these no cell or all.
func maskOfLength(size int64) impl.Mask {
	isSet := func(x, y int64) bool {
		i := 16*y + x
		return i < size-1 && i%2 == 0 || i >= size-1 && size%2 != 0
	}
	return maskOfSet(setOfMask(fullMask()).picked(isSet))
}

func TestMasksOfLengths(t *testing.T) {
	for size := range int64(256) {
		m := maskOfLength(size + 1)
		wantNumber(t, "bytes of a mask", int64(len(packForTest(m))), size+1)
		checkPictureFile(t, fmt.Sprint(size+1, " bytes"), []impl.Block{{At: impl.Corner{-1, 300}, Mask: m}})
	}
}

func TestPictureFiles(t *testing.T) {
	random := rand.New(rand.NewSource(740))
	checkPictureFile(t, "no block", nil)
	for i, m := range manyMasks(random, 100) {
		if m == (impl.Mask{}) {
			continue
		}
		at := impl.Corner{random.Int31n(99) - 50, random.Int31n(99) - 50}
		checkPictureFile(t, fmt.Sprint("the mask ", i), []impl.Block{{At: at, Mask: m}})
	}
	checkPictureFile(t, "a mask of 256 bytes", []impl.Block{{At: impl.Corner{-1, -2}, Mask: longestMask()}})
	checkPictureFile(t, "a mask of 255 bytes", []impl.Block{{At: impl.Corner{-1, -2}, Mask: impl.MinusMasks(fullMask(), longestMask())}})
	checkPictureFile(t, "MaxBlocks blocks", rowOfBlocks(64, -4, -4, impl.Mask{3}))
	one := impl.Mask{0: 1}
	for _, at := range []impl.Corner{{0, 0}, {-1, 0}, {0, -1}, {62500, 62500}, {-62500, -62500}, {-62500, 62500}, {255, 256}, {-255, -256}, {-257, 65535 - 62500}} {
		checkPictureFile(t, fmt.Sprint("the corner ", at), []impl.Block{{At: at, Mask: one}})
	}
	for range 300 {
		checkPictureFile(t, "a random picture", randomPicture(random))
	}
}

func TestPictureFileByHand(t *testing.T) {
	list, code := impl.PictureFile([]impl.Block{{At: impl.Corner{5, -1}, Mask: impl.Mask{2}}, {At: impl.Corner{-258, 1}, Mask: fullMask()}})
	wantNumber(t, "code of PictureFile", code, impl.OK)
	want := []byte{77, 80, 78, 2, 0, 0, 0, 2, 0, 0, 0, 21, 0, 0, 0, 5, 255, 255, 255, 255, 2, 1, 1, 255, 255, 254, 254, 0, 0, 0, 1, 1, 0, 0, 0, 0}
	wantBytes(t, "the payloads of PictureFile", payloadsOf(list), 0, want, 0)
	list, code = impl.PictureFile([]impl.Block{{Mask: longestMask()}})
	wantNumber(t, "code of PictureFile", code, impl.OK)
	wantBytes(t, "the beginning of PictureFile", payloadsOf(list)[:24], 0, []byte{77, 80, 78, 2, 0, 0, 0, 1, 0, 0, 1, 9, 0, 0, 0, 0, 0, 0, 0, 0, 0, 0, 1, 1}, 0)
}

// 30 blocks of 265 bytes and one of 242 have MaxBytes bytes.
func TestPictureFilesOfManyBytes(t *testing.T) {
	for last := int64(230); last <= 256; last++ {
		picture := append(rowOfBlocks(30, -3, -2, longestMask()), impl.Block{At: impl.Corner{0, 99}, Mask: maskOfLength(last)})
		size := int64(len(pictureBytes(picture)))
		wantNumber(t, "bytes", size, 30*265+9+last)
		if size <= 8192 {
			checkPictureFile(t, fmt.Sprint(size, " bytes"), picture)
			continue
		}
		list, code := impl.PictureFile(picture)
		wantFrames(t, fmt.Sprint("PictureFile of ", size, " bytes"), list, code, nil, impl.ErrLimit)
		wantPictureCode(t, fmt.Sprint(size, " bytes"), pictureFileForTest(picture), impl.ErrSyntax)
	}
	list, code := impl.PictureFile(rowOfBlocks(64, 0, 0, longestMask()))
	wantFrames(t, "PictureFile of all that can be", list, code, nil, impl.ErrLimit)
}

func TestPictureFileOfNoPictures(t *testing.T) {
	for name, list := range invalidPictures() {
		file, code := impl.PictureFile(list)
		wantFrames(t, "PictureFile of "+name, file, code, nil, impl.ErrInvalid)
		if len(list) <= 64 {
			wantPictureCode(t, name, pictureFileForTest(list), impl.ErrSyntax)
		}
	}
	// That a list is no picture is checked before its bytes are counted.
	file, code := impl.PictureFile(append(rowOfBlocks(40, 0, 0, longestMask()), impl.Block{}))
	wantFrames(t, "PictureFile of many bytes", file, code, nil, impl.ErrInvalid)
}

func TestReadPictureFileErrors(t *testing.T) {
	at, next := impl.Corner{-3, 4}, impl.Corner{-2, 4}
	first, second := blockBytes(at, []byte{7, 2}), blockBytes(next, []byte{0, 30, 5})
	both := slices.Concat(first, second)
	wantPictureCode(t, "a file", fileForTest(2, 2, both), impl.OK)
	wantPictureCode(t, "no block", fileForTest(2, 0, nil), impl.OK)
	for _, kind := range []byte{0, 1, 3, 4} {
		wantPictureCode(t, fmt.Sprint("the kind ", kind), fileForTest(kind, 2, both), impl.ErrSyntax)
		wantPictureCode(t, fmt.Sprint("nothing of the kind ", kind), fileForTest(kind, 0, nil), impl.ErrSyntax)
	}
	for _, count := range []int{0, 1, 3, 64, 256, 257} {
		wantPictureCode(t, fmt.Sprint("the count ", count), fileForTest(2, count, both), impl.ErrSyntax)
	}
	for size := range both {
		if size != len(first) {
			wantPictureCode(t, fmt.Sprint(size, " bytes"), fileForTest(2, 2, both[:size]), impl.ErrSyntax)
			wantPictureCode(t, fmt.Sprint(size, " bytes with a block"), fileForTest(2, 1, both[:size]), impl.ErrSyntax)
		}
	}
	wantPictureCode(t, "one block of two", fileForTest(2, 1, first), impl.OK)
	for _, more := range []int{1, 8, 9, 10, 11} {
		wantPictureCode(t, fmt.Sprint(more, " bytes left over"), fileForTest(2, 2, append(slices.Clone(both), make([]byte, more)...)), impl.ErrSyntax)
	}
	wantPictureCode(t, "blocks not in order", fileForTest(2, 2, slices.Concat(second, first)), impl.ErrSyntax)
	wantPictureCode(t, "a block twice", fileForTest(2, 2, slices.Concat(first, first)), impl.ErrSyntax)
	wantPictureCode(t, "a corner twice", fileForTest(2, 2, slices.Concat(first, blockBytes(at, []byte{9, 2}))), impl.ErrSyntax)
	wantPictureCode(t, "no frame", nil, impl.ErrSyntax)
	wantPictureCode(t, "a broken file", spoiltAt(fileForTest(2, 2, both), 1), impl.ErrProof)
	wantPictureCode(t, "a broken file of another kind", spoiltAt(fileForTest(1, 0, both), 1), impl.ErrProof)
	wantPictureCode(t, "too many frames", make([]impl.Frame, 701), impl.ErrLimit)
	wantPictureCode(t, "too many blocks", fileForTest(2, 65, pictureBytes(rowOfBlocks(65, 0, 0, impl.Mask{1}))), impl.ErrSyntax)
	wantPictureCode(t, "MaxBlocks blocks", fileForTest(2, 64, pictureBytes(rowOfBlocks(64, 0, 0, impl.Mask{1}))), impl.OK)
}

func TestReadPictureFileOfOtherMasks(t *testing.T) {
	with := func(mask []byte) []impl.Frame { return fileForTest(2, 1, blockBytes(impl.Corner{1, 2}, mask)) }
	wantPictureCode(t, "a mask", with([]byte{1, 2, 3}), impl.OK)
	wantPictureCode(t, "all cells", with([]byte{0}), impl.OK)
	wantPictureCode(t, "all cells but one", with([]byte{0, 255}), impl.OK)
	wantPictureCode(t, "the last cell", with([]byte{255}), impl.OK)
	masks := [][]byte{{}, {1, 0}, {0, 0}, {1, 0, 1}, {0, 1, 0}, {0, 1, 0, 5}, {255, 1}, {1, 255}, {255, 255}, {0, 255, 1}, {128, 128}, {16, 16, 224}, {0, 0, 0}, slices.Repeat([]byte{1}, 256), append([]byte{0}, slices.Repeat([]byte{1}, 256)...)[:257], slices.Repeat([]byte{0}, 256), slices.Repeat([]byte{0}, 255), slices.Repeat([]byte{255}, 256)}
	for _, mask := range masks {
		wantPictureCode(t, fmt.Sprint("the bytes ", mask), with(mask), impl.ErrSyntax)
	}
	longest := packForTest(longestMask())
	wantNumber(t, "bytes of the longest mask", int64(len(longest)), 256)
	wantPictureCode(t, "256 bytes", with(longest), impl.OK)
	wantPictureCode(t, "255 bytes", with(slices.Repeat([]byte{1}, 255)), impl.OK)
	wantPictureCode(t, "256 other bytes", with(append([]byte{1}, longest[1:]...)), impl.ErrSyntax)
	wantPictureCode(t, "256 bytes and one more", fileForTest(2, 1, append(blockBytes(impl.Corner{}, longest), 1)), impl.ErrSyntax)
	for _, corner := range []impl.Corner{{62501, 0}, {0, 62501}, {-62502, 0}, {0, -62502}, {math.MaxInt32, 0}, {math.MinInt32, 0}, {0, math.MinInt32}, {1 << 28, 0}, {0, -1 << 28}} {
		wantPictureCode(t, fmt.Sprint("the corner ", corner), fileForTest(2, 1, blockBytes(corner, []byte{0, 1})), impl.ErrSyntax)
	}
}

func TestChangedPictureFiles(t *testing.T) {
	random := rand.New(rand.NewSource(741))
	codes := map[int64]int{}
	for range 4000 {
		cells := randomCells(random, random.Intn(6))
		if random.Intn(4) == 0 {
			cells = filled(-3, -2, 1+random.Int31n(20), 3)
		}
		list := pictureFileForTest(pictureOfSet(setOf(cells...)))
		if random.Intn(4) > 0 {
			list = changedFile(random, list)
		}
		codes[wantReadPicture(t, "a changed file", list)]++
	}
	wantOften(t, codes, 300, impl.OK, impl.ErrProof, impl.ErrSyntax)
}
