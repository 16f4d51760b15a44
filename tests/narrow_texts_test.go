package tests

import (
	"fmt"
	"strings"
	"testing"

	"loop.example/g01171/impl"
)

func TestRealText(t *testing.T) {
	for _, a := range manyReals() {
		want := fmt.Sprintf("%08x", bitsOf(a))
		if isNaN(a) {
			want = "nan"
		}
		text := impl.RealText(a)
		if text != want {
			t.Errorf("RealText(%08x): got %q, want %q", bitsOf(a), text, want)
		}
		read, code := impl.ReadReal(text)
		wantReal(t, "read from its text", read, code, a, impl.OK)
	}
	for _, k := range []struct {
		a    float32
		text string
	}{{0, "00000000"}, {minusZero, "80000000"}, {least, "00000001"}, {infinite, "7f800000"}, {minus(infinite), "ff800000"}, {-2, "c0000000"}, {minus(notNumber), "nan"}} {
		if text := impl.RealText(k.a); text != k.text {
			t.Errorf("RealText: got %q, want %q", text, k.text)
		}
	}
}

func TestReadRealRefusesOtherTexts(t *testing.T) {
	texts := []string{"", " ", "n", "na", "NaN", "NAN", "nan ", " nan", "nann", "inf", "0", "1",
		"3f80000", "3f8000000", "03f800000", "3F800000", "3f80000A", "3f80000g", "3f80000/", "3f80000:", "3f80000`", "3f80000@",
		" 3f80000", "3f80000 ", "3f800000\n", "+3f80000", "-3f80000", "0x3f8000", "3f_80000", "3f8_0000", "3f 80000",
		"7f800001", "7fc00000", "7fffffff", "ff800001", "ffc00000", "ffffffff", "7fbfffff",
		"\x003f80000", "3f80000\x80", "３f80000", "3f80000\u00e9", "1.000000", "00000000nan", "nan00000"}
	for _, text := range texts {
		got, code := impl.ReadReal(text)
		wantReal(t, fmt.Sprintf("ReadReal(%q)", text), got, code, 0, impl.ErrSyntax)
	}
	for _, text := range []string{strings.Repeat("0", 1000000), strings.Repeat("n", 1000000), strings.Repeat("f", 16), strings.Repeat("0", 16)} {
		got, code := impl.ReadReal(text)
		wantReal(t, "ReadReal of a long text", got, code, 0, impl.ErrSyntax)
	}
}

func TestReadRealOfAllDigits(t *testing.T) {
	for place := range 8 {
		for digit := range 256 {
			text := []byte("3f800000")
			text[place] = byte(digit)
			got, code := impl.ReadReal(string(text))
			var word uint32
			if strings.IndexByte("0123456789abcdef", byte(digit)) < 0 {
				wantReal(t, string(text), got, code, 0, impl.ErrSyntax)
				continue
			}
			fmt.Sscanf(string(text), "%08x", &word)
			if isNaN(ofBits(word)) {
				wantReal(t, string(text), got, code, 0, impl.ErrSyntax)
			} else {
				wantReal(t, string(text), got, code, ofBits(word), impl.OK)
			}
		}
	}
}
