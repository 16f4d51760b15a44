package tests

import (
	"bytes"
	"math/rand"
	"slices"
	"strings"
	"testing"

	"loop.example/g01171/impl"
)

// signsOf tells the signs of all cells, row by row.
func signsOf(m impl.Mask) string {
	set := setOfMask(m)
	signs := ""
	for _, c := range filled(0, 0, 15, 15) {
		if set[[2]int64{int64(c[0]), int64(c[1])}] {
			signs += "#"
		} else {
			signs += "."
		}
	}
	return signs
}

func maskTextForTest(m impl.Mask) string {
	text, signs := "", signsOf(m)
	for y := range 16 {
		text += signs[16*y:16*y+16] + "\n"
	}
	return text
}

// packForTest cuts one run after the other off, and leaves out the last one.
func packForTest(m impl.Mask) []byte {
	data, left, sign := []byte{}, signsOf(m), "."
	for {
		rest := strings.TrimLeft(left, sign)
		if rest == "" {
			return data
		}
		data = append(data, byte(len(left)-len(rest)))
		left, sign = rest, map[string]string{".": "#", "#": "."}[sign]
	}
}

// unpackForTest tells the mask with runs of the given lengths, none of which is empty but maybe the first one.
func unpackForTest(data []byte) (impl.Mask, int64) {
	signs := ""
	for i, length := range data {
		if i > 0 && length == 0 {
			return impl.Mask{}, impl.ErrSyntax
		}
		signs += strings.Repeat(string(".#"[i%2]), int(length))
	}
	if len(signs) >= 256 {
		return impl.Mask{}, impl.ErrSyntax
	}
	signs += strings.Repeat(string(".#"[len(data)%2]), 256-len(signs))
	var m impl.Mask
	for i, sign := range signs {
		if sign == '#' {
			m[i/16] |= 1 << (i % 16)
		}
	}
	return m, impl.OK
}

func wantUnpacked(t *testing.T, data []byte) int64 {
	t.Helper()
	want, wantCode := unpackForTest(data)
	got, code := impl.UnpackMask(data)
	if got != want || code != wantCode {
		t.Errorf("UnpackMask %v: got %04x and %s, want %04x and %s", data, got, impl.CodeName(code), want, impl.CodeName(wantCode))
	}
	if code == impl.OK && !bytes.Equal(impl.PackMask(got), data) {
		t.Errorf("PackMask of UnpackMask %v: got %v", data, impl.PackMask(got))
	}
	return code
}

func TestMaskText(t *testing.T) {
	random := rand.New(rand.NewSource(510))
	for _, m := range manyMasks(random, 300) {
		text := impl.MaskText(m)
		wantWord(t, "MaskText", text, 0, maskTextForTest(m), 0)
		back, code := impl.ReadMask(text)
		wantMask(t, "ReadMask", back, code, m, impl.OK)
	}
	empty := strings.Repeat(".", 16) + "\n"
	wantWord(t, "MaskText of no cell", impl.MaskText(impl.Mask{}), 0, strings.Repeat(empty, 16), 0)
	wantWord(t, "MaskText of two cells", impl.MaskText(impl.Mask{0: 2, 15: 0x8000}), 0, ".#..............\n"+strings.Repeat(empty, 14)+"...............#\n", 0)
}

func TestReadMaskOfOtherTexts(t *testing.T) {
	text := impl.MaskText(impl.Mask{0: 5, 7: 0x8001, 15: 0xc000})
	line := text[:17]
	list := []string{
		"", "\n", "#", ".", text[:271], text + "\n", text + ".", "\n" + text, text[1:], text[17:], text + line, line + text, text + text,
		text[:len(text)-17], text[:16] + text[17:], line[:15] + text[16:], text[:255] + "#" + text[255:],
		text[:15] + "\n" + text[16:], text[:15] + "\n." + text[17:], strings.ReplaceAll(text, "\n", "\r\n"), strings.ReplaceAll(text, "\n", "\r"),
		strings.ReplaceAll(text, "\n", ""), strings.ReplaceAll(text, "\n", "#"), strings.ReplaceAll(text, ".", " "), strings.ReplaceAll(text, "#", "X"),
		strings.Repeat(".", 256), strings.Repeat("#", 272), strings.Repeat("\n", 272), strings.Repeat("\n", 16), strings.Repeat(text, 1000), strings.Repeat("\n", 500000),
		strings.Repeat(strings.Repeat(".", 15)+"\n", 17), strings.Repeat(strings.Repeat("#", 17)+"\n", 16), strings.Repeat(strings.Repeat("#", 33)+"\n", 8), "é" + text[2:],
	}
	for _, other := range list {
		m, code := impl.ReadMask(other)
		wantMask(t, "ReadMask "+other[:min(len(other), 40)], m, code, impl.Mask{}, impl.ErrSyntax)
	}
	for place := range len(text) {
		for _, sign := range "#.\n xO\x00\"+-*," {
			other := text[:place] + string(sign) + text[place+1:]
			m, code := impl.ReadMask(other)
			if sign != '\n' && place%17 < 16 && strings.ContainsRune("#.", sign) || other == text {
				wantWord(t, "MaskText of a changed mask", impl.MaskText(m), code, other, impl.OK)
			} else {
				wantMask(t, "ReadMask with another sign", m, code, impl.Mask{}, impl.ErrSyntax)
			}
		}
		m, code := impl.ReadMask(text[:place] + text[place+1:])
		wantMask(t, "ReadMask with a sign too few", m, code, impl.Mask{}, impl.ErrSyntax)
		m, code = impl.ReadMask(text[:place] + "." + text[place:])
		wantMask(t, "ReadMask with a sign too many", m, code, impl.Mask{}, impl.ErrSyntax)
	}
}

func TestPackMask(t *testing.T) {
	random := rand.New(rand.NewSource(511))
	for _, m := range manyMasks(random, 300) {
		data := impl.PackMask(m)
		if want := packForTest(m); !bytes.Equal(data, want) {
			t.Errorf("PackMask %04x: got %v, want %v", m, data, want)
		}
		back, code := impl.UnpackMask(data)
		wantMask(t, "UnpackMask PackMask", back, code, m, impl.OK)
	}
	cases := []struct {
		m    impl.Mask
		want []byte
	}{
		{impl.Mask{}, nil}, {fullMask(), []byte{0}}, {impl.Mask{3}, []byte{0, 2}}, {impl.Mask{2}, []byte{1, 1}}, {impl.Mask{15: 0x8000}, []byte{255}},
		{impl.Mask{15: 0x4000}, []byte{254, 1}}, {impl.Mask{0: 0x8000, 1: 1}, []byte{15, 2}}, {impl.MinusMasks(fullMask(), impl.Mask{15: 0x8000}), []byte{0, 255}},
		{impl.MinusMasks(fullMask(), impl.Mask{1}), []byte{1}}, {impl.Mask{0: 0xffff}, []byte{0, 16}},
	}
	for _, c := range cases {
		if got := impl.PackMask(c.m); !bytes.Equal(got, c.want) {
			t.Errorf("PackMask %04x: got %v, want %v", c.m, got, c.want)
		}
		m, code := impl.UnpackMask(c.want)
		wantMask(t, "UnpackMask", m, code, c.m, impl.OK)
	}
	checkers := edgeMasks()[len(edgeMasks())-2]
	wantNumber(t, "bytes of every other cell", int64(len(impl.PackMask(checkers))), int64(len(packForTest(checkers))))
}

func TestUnpackMask(t *testing.T) {
	codes := map[int64]int{}
	codes[wantUnpacked(t, nil)]++
	for first := range 256 {
		codes[wantUnpacked(t, []byte{byte(first)})]++
		for second := range 256 {
			codes[wantUnpacked(t, []byte{byte(first), byte(second)})]++
		}
	}
	random := rand.New(rand.NewSource(512))
	for range 5000 {
		data := make([]byte, random.Intn(30))
		for i := range data {
			data[i] = byte(random.Intn(20))
		}
		if len(data) > 0 && random.Intn(2) == 0 {
			data[random.Intn(len(data))] = byte(random.Intn(256))
		}
		codes[wantUnpacked(t, data)]++
	}
	for range 2000 {
		data := impl.PackMask(impl.JoinMasks(randomMask(random), impl.Mask{8: 1}))
		data[random.Intn(len(data))] += byte(random.Intn(3) - 1)
		codes[wantUnpacked(t, data)]++
		at := random.Intn(len(data) + 1)
		codes[wantUnpacked(t, slices.Insert(data, at, byte(random.Intn(2))))]++
	}
	if codes[impl.OK] < 1000 || codes[impl.ErrSyntax] < 1000 || len(codes) != 2 {
		t.Errorf("codes: %v", codes)
	}
}

func TestUnpackMaskEdges(t *testing.T) {
	ones := bytes.Repeat([]byte{1}, 255)
	cases := []struct {
		data []byte
		code int64
	}{
		{[]byte{}, impl.OK}, {[]byte{0}, impl.OK}, {[]byte{255}, impl.OK}, {[]byte{0, 255}, impl.OK}, {[]byte{255, 1}, impl.ErrSyntax}, {[]byte{254, 1}, impl.OK}, {[]byte{254, 2}, impl.ErrSyntax},
		{[]byte{0, 0}, impl.ErrSyntax}, {[]byte{0, 1, 0}, impl.ErrSyntax}, {[]byte{1, 0}, impl.ErrSyntax}, {[]byte{1, 0, 1}, impl.ErrSyntax}, {[]byte{0, 2, 0}, impl.ErrSyntax}, {[]byte{0, 0, 5}, impl.ErrSyntax},
		{[]byte{0, 255, 1}, impl.ErrSyntax}, {[]byte{0, 254, 1}, impl.OK}, {[]byte{255, 255}, impl.ErrSyntax}, {[]byte{128, 128}, impl.ErrSyntax}, {[]byte{128, 127}, impl.OK}, {[]byte{100, 100, 100}, impl.ErrSyntax},
		{[]byte{255, 1, 0}, impl.ErrSyntax}, {[]byte{255, 0}, impl.ErrSyntax}, {[]byte{0, 255, 0}, impl.ErrSyntax},
		{ones, impl.OK}, {append([]byte{0}, ones...), impl.OK}, {append(ones, 1), impl.ErrSyntax}, {append(ones, 0), impl.ErrSyntax}, {append([]byte{0}, append(ones, 1)...), impl.ErrSyntax},
		{make([]byte, 300), impl.ErrSyntax}, {make([]byte, 1000000), impl.ErrSyntax}, {bytes.Repeat([]byte{255}, 1000000), impl.ErrSyntax}, {append(make([]byte, 256), 255), impl.ErrSyntax},
	}
	for _, c := range cases {
		m, code := impl.UnpackMask(c.data)
		if code != c.code || code != impl.OK && m != (impl.Mask{}) {
			t.Errorf("UnpackMask %v: got %04x and %s, want %s", c.data[:min(len(c.data), 20)], m, impl.CodeName(code), impl.CodeName(c.code))
		}
	}
}
