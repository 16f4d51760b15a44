package tests

import (
	"fmt"
	"math/big"
	"regexp"
	"strconv"
	"strings"
	"testing"

	"loop.example/g01171/impl"
)

const numberPattern = `-?[0-9]{1,6}(?:/(?:2|4|8|16|32|64|128|256|512|1024))?`

var wholeNumber = regexp.MustCompile(`\A` + numberPattern + `\z`)

// numberForTest tells the number of a text, which has to be exact.
func numberForTest(text string) (float32, int64) {
	if !wholeNumber.MatchString(text) {
		return 0, impl.ErrSyntax
	}
	digits, behind, isDivided := strings.Cut(text, "/")
	whole, _ := strconv.ParseInt(digits, 10, 64)
	divisor := int64(1)
	if isDivided {
		divisor, _ = strconv.ParseInt(behind, 10, 64)
	}
	a, isExact := big.NewRat(whole, divisor).Float32()
	if !isExact {
		panic(text + " is no narrow number")
	}
	return a, impl.OK
}

func checkNumber(t *testing.T, text string) {
	t.Helper()
	a, code := impl.ReadNumber(text)
	want, wantCode := numberForTest(text)
	wantReal(t, fmt.Sprintf("ReadNumber %q", text), a, code, want, wantCode)
}

func TestReadNumber(t *testing.T) {
	cases := map[string]float32{
		"0": 0, "1": 1, "7": 7, "9": 9, "10": 10, "-1": -1, "-0": 0, "-000000": 0, "000000": 0, "-0/2": 0, "0/1024": 0, "-0/1024": 0,
		"123456": 123456, "999999": 999999, "-999999": -999999, "000001": 1, "-000001": -1, "007": 7,
		"-3/8": -0.375, "3/8": 0.375, "1/2": 0.5, "-1/2": -0.5, "4/2": 2, "1/4": 0.25, "1/16": 0.0625, "5/32": 0.15625, "1/64": 0x1p-6, "1/128": 0x1p-7, "1/256": 0x1p-8, "1/512": 0x1p-9,
		"1/1024": 0x1p-10, "-1/1024": -0x1p-10, "999999/1024": 976.5615234375, "-999999/1024": -976.5615234375, "000003/2": 1.5, "1024/1024": 1,
	}
	for text, want := range cases {
		a, code := impl.ReadNumber(text)
		wantReal(t, "ReadNumber "+text, a, code, want, impl.OK)
		checkNumber(t, text)
	}
}

func TestReadNumberOfOtherTexts(t *testing.T) {
	list := []string{"", "-", "--", "--1", "-+1", "+-1", "+1", "+", "1-", "1+", "-1-", "1000000", "-1000000", "0000001", "-0000001", "0000000", "1234567", "12345678901234567890", "18446744073709551617",
		" ", " 1", "1 ", "- 1", "1 /2", "1/ 2", "1/2 ", "1 2", "\n", "1\n", "1\n2", "\t1", "1\r", "\x00", "1\x00", "a", "1a", "a1", "0x1", "1e2", "1.0", ".5", "1.", "1,0", "1_0", "inf", "nan", "Inf", "-Inf", "NaN",
		"/", "1/", "/2", "-/2", "-/", "1//2", "1/2/", "1/2/2", "1/2/4", "4/2/2", "//", "1/-2", "1/+2", "1/02", "1/002", "1/0", "1/00", "1/1", "1/01", "1/3", "1/5", "1/6", "1/7", "1/9", "1/10", "1/12", "1/20", "1/22", "1/24", "1/48", "1/100", "1/1000", "1/1023", "1/1025", "1/2048", "1/4096", "1/01024", "1/10240", "1/102", "1/24", "1/256 ", "1/2.0", "1/0x2", "1/2e0",
		"1000000/2", "0000001/2", "1\\2", "1:2", "１", "٣", "½", "1/２", "²", "−1", "1/1/2", strings.Repeat("0", 100), strings.Repeat("1", 1000000), "1/" + strings.Repeat("2", 1000000), strings.Repeat("-", 1000000), "1" + strings.Repeat("/2", 400000)}
	for _, text := range list {
		a, code := impl.ReadNumber(text)
		wantReal(t, fmt.Sprintf("ReadNumber %.50q", text), a, code, 0, impl.ErrSyntax)
		checkNumber(t, text)
	}
}

// All texts of few signs are read as the pattern of numbers says.
func TestReadNumberOfShortTexts(t *testing.T) {
	list := []string{""}
	for range 5 {
		var longer []string
		for _, text := range list {
			checkNumber(t, text)
			for _, sign := range "-+/0128 x" {
				longer = append(longer, text+string(sign))
			}
		}
		list = longer
	}
}

func TestReadNumberBySigns(t *testing.T) {
	for b := range 256 {
		sign := string([]byte{byte(b)})
		for _, text := range []string{sign, sign + "1", "1" + sign, "12" + sign + "34", "-" + sign, "-1" + sign, "1/" + sign, "1/2" + sign, "1/" + sign + "2", sign + "/2", "1" + sign + "/2", "1" + sign + "2"} {
			checkNumber(t, text)
		}
	}
	for n := range 3000 {
		behind := strconv.Itoa(n)
		for _, text := range []string{"1/" + behind, "-5/" + behind, "999999/" + behind, "7/0" + behind, behind, "-" + behind, "0" + behind, "00" + behind, "000" + behind} {
			checkNumber(t, text)
		}
	}
	for n := 0; n < 1000000; n += 617 {
		for divisor := 1; divisor <= 2048; divisor *= 2 {
			checkNumber(t, fmt.Sprintf("%d/%d", n, divisor))
			checkNumber(t, fmt.Sprintf("-%06d/%d", n, divisor))
		}
		checkNumber(t, strconv.Itoa(-n))
	}
}
