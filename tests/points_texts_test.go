package tests

import (
	"math/rand"
	"strings"
	"testing"

	"loop.example/g01171/impl"
)

func TestPointText(t *testing.T) {
	random := rand.New(rand.NewSource(50))
	list := append(append(edgePoints(), oddPoints()...), randomPoints(random, 2000)...)
	for _, x := range list {
		text := impl.PointText(x)
		if text != bitsText(x) {
			t.Errorf("PointText %s: got %q", bitsText(x), text)
		}
		read, code := impl.ReadPoint(text)
		wantPoint(t, "read from its text", read, code, x, impl.OK)
	}
	known := map[string]complex64{
		"3f800000 40000000": 1 + 2i,
		"00000000 80000000": complex(0, minusZero),
		"nan ff800000":      complex(notNumber, minus(infinite)),
		"00000001 nan":      complex(least, notNumber),
		"nan nan":           complex(notNumber, notNumber),
	}
	for text, x := range known {
		if got := impl.PointText(x); got != text {
			t.Errorf("PointText: got %q, want %q", got, text)
		}
		got, code := impl.ReadPoint(text)
		wantPoint(t, "ReadPoint "+text, got, code, x, impl.OK)
	}
}

func TestReadPointRefusesOtherTexts(t *testing.T) {
	texts := []string{"", " ", "  ", "3f800000", "3f800000 ", " 3f800000", "3f800000 4000000", "3f80000 40000000", "3f800000  40000000",
		" 3f800000 40000000", "3f800000 40000000 ", "3f800000 40000000 00000000", "3f800000\t40000000", "3f800000\n40000000", "3f800000,40000000",
		"3f80000040000000", "3f800000 40000000\n", "3F800000 40000000", "3f800000 4000000A", "7fc00000 00000000", "00000000 7fc00000", "00000000 ffc00000",
		"7f800001 00000000", "nan", "nan ", " nan", "nannan", "NaN nan", "nan Nan", "inf 00000000", "1 2", "(1+2i)", "3f800000 40000000i", "3f800000+40000000",
		"3f800000\u00a040000000", "\x003f80000 40000000", "3f800000 -0000000"}
	for _, text := range texts {
		got, code := impl.ReadPoint(text)
		wantPoint(t, "ReadPoint "+text, got, code, 0, impl.ErrSyntax)
	}
	for _, text := range []string{strings.Repeat(" ", 1000000), strings.Repeat("0", 1000000), "3f800000 " + strings.Repeat("0", 1000000), strings.Repeat("nan ", 200000)} {
		got, code := impl.ReadPoint(text)
		wantPoint(t, "ReadPoint of a long text", got, code, 0, impl.ErrSyntax)
	}
}

func TestReadPointOfAllBytes(t *testing.T) {
	const good = "3f800000 40000000"
	for place := range len(good) {
		for digit := range 256 {
			text := []byte(good)
			text[place] = byte(digit)
			got, code := impl.ReadPoint(string(text))
			if code == impl.OK && impl.PointText(got) != string(text) {
				t.Errorf("ReadPoint(%q): got %s", text, bitsText(got))
			}
			isDigit := strings.IndexByte("0123456789abcdef", byte(digit)) >= 0
			if place == 8 {
				isDigit = digit == ' '
			}
			// No digit makes a NaN of these parts.
			if isDigit != (code == impl.OK) {
				t.Errorf("ReadPoint(%q): got %s", text, impl.CodeName(code))
			}
		}
	}
}
