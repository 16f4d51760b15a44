package tests

import (
	"fmt"
	"math"
	"math/rand"
	"testing"

	"loop.example/g01171/impl"
)

// noIndexes are not 0 to MaxFrames - 1; as 32 bits, some of them are.
func noIndexes() []int64 {
	return []int64{-1, 700, 701, -700, -699, 1 << 31, 1 << 32, 1<<32 + 5, -1 << 32, 5 - 1<<32, math.MaxInt64, math.MinInt64}
}

func wantCheck(t *testing.T, index int64, payload [12]byte, want uint32, wantCode int64) {
	t.Helper()
	check, code := impl.CheckOf(index, payload)
	if check != want || code != wantCode {
		t.Errorf("CheckOf %d and %v: got %08x and %s, want %08x and %s", index, payload, check, impl.CodeName(code), want, impl.CodeName(wantCode))
	}
}

func wantMadeFrame(t *testing.T, index int64, payload [12]byte, want impl.Frame, wantCode int64) {
	t.Helper()
	f, code := impl.MakeFrame(index, payload)
	if f != want || code != wantCode {
		t.Errorf("MakeFrame %d and %v: got %v and %s, want %v and %s", index, payload, f, impl.CodeName(code), want, impl.CodeName(wantCode))
	}
}

func wantSound(t *testing.T, f impl.Frame, index int64, want bool, wantCode int64) {
	t.Helper()
	isSound, code := impl.IsSound(f, index)
	wantBool(t, fmt.Sprint("IsSound ", f, " at ", index), isSound, code, want, wantCode)
}

// These checks have been found with whole numbers of any size, and the rest by 2 to the power 32.
func TestChecksFoundByHand(t *testing.T) {
	high := [12]byte{255, 255, 255, 255, 255, 255, 255, 255, 255, 255, 255, 255}
	cases := []struct {
		index   int64
		payload [12]byte
		want    uint32
	}{
		{0, [12]byte{}, 0x69691905}, {1, [12]byte{}, 0x32547be2}, {256, [12]byte{}, 0x90f5baec}, {699, [12]byte{}, 0x7fbac9f2},
		{0, high, 0x4a979a19}, {255, high, 0x21b657ec}, {699, high, 0x6d1c5506},
		{0, [12]byte{11: 1}, 0x68691772}, {0, [12]byte{1}, 0x95dca8d4}, {0, [12]byte{77, 80, 78, 1}, 0x709ee169},
		{2, [12]byte{0, 255, 0, 255, 0, 255, 0, 255, 0, 255, 0, 255}, 0x37fb8a67},
	}
	for _, c := range cases {
		wantCheck(t, c.index, c.payload, c.want, impl.OK)
	}
	wantMadeFrame(t, 0, [12]byte{77, 80, 78, 1}, impl.Frame{77, 80, 78, 1, 12: 0x70, 13: 0x9e, 14: 0xe1, 15: 0x69}, impl.OK)
}

func TestFrames(t *testing.T) {
	random := rand.New(rand.NewSource(700))
	for i := range 2000 {
		index, payload := random.Int63n(700), randomPayload(random)
		if i < 700 {
			index = int64(i)
		}
		want := frameForTest(index, payload)
		wantCheck(t, index, payload, checkForTest(index, payload), impl.OK)
		wantMadeFrame(t, index, payload, want, impl.OK)
		wantSound(t, want, index, true, impl.OK)
		if got := impl.PayloadOf(want); got != payload {
			t.Errorf("PayloadOf %v: got %v, want %v", want, got, payload)
		}
		spoilt := spoiltAt([]impl.Frame{want}, 0)[0]
		if got := impl.PayloadOf(spoilt); got != payloadForTest(spoilt[:]) {
			t.Errorf("PayloadOf %v, which is not sound: got %v", spoilt, got)
		}
	}
}

func TestFramesWithoutIndex(t *testing.T) {
	payload := [12]byte{1, 2, 3}
	for _, index := range noIndexes() {
		wantCheck(t, index, payload, 0, impl.ErrRange)
		wantMadeFrame(t, index, payload, impl.Frame{}, impl.ErrRange)
		for _, f := range []impl.Frame{{}, frameForTest(0, payload), frameForTest(index, payload), frameForTest(699, payload)} {
			wantSound(t, f, index, false, impl.ErrRange)
		}
	}
	for _, index := range []int64{0, 1, 698, 699} {
		wantCheck(t, index, payload, checkForTest(index, payload), impl.OK)
		wantSound(t, frameForTest(index, payload), index, true, impl.OK)
		wantSound(t, impl.Frame{}, index, false, impl.OK)
	}
}

// A frame of which one byte is changed is not sound.
func TestEachChangeOfAFrameIsFound(t *testing.T) {
	random := rand.New(rand.NewSource(701))
	for i := range 30 {
		index := []int64{0, 1, 255, 256, 699, random.Int63n(700)}[i%6]
		f := frameForTest(index, randomPayload(random))
		if i < 6 {
			f = frameForTest(index, [12]byte{})
		}
		for bit := range 128 {
			changed := f
			changed[bit/8] ^= 1 << (bit % 8)
			wantSound(t, changed, index, false, impl.OK)
		}
		for place := range f {
			for b := range 256 {
				changed := f
				changed[place] = byte(b)
				wantSound(t, changed, index, changed == f, impl.OK)
			}
		}
	}
}

func TestFramesAreNotSoundAtOtherIndexes(t *testing.T) {
	random := rand.New(rand.NewSource(702))
	for _, index := range []int64{0, 1, 255, 256, 511, 512, 698, 699} {
		f := frameForTest(index, randomPayload(random))
		for other := range int64(700) {
			wantSound(t, f, other, other == index, impl.OK)
		}
	}
}
