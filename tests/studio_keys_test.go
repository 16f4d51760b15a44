package tests

import (
	"encoding/hex"
	"fmt"
	"math/rand"
	"strings"
	"testing"

	"loop.example/g01171/impl"
)

// checkKey checks the key of a mask and its text, which is read again.
func checkKey(t *testing.T, m impl.Mask) {
	t.Helper()
	key := impl.KeyOfMask(m)
	if want := maskKeyForTest(m); key != want {
		t.Errorf("KeyOfMask %04x: got %x, want %x", m, key, want)
	}
	text := impl.KeyText(key)
	if want := hex.EncodeToString(key[:]); text != want {
		t.Errorf("KeyText %v: got %q, want %q", key, text, want)
	}
	back, code := impl.ReadKey(text)
	if back != key || code != impl.OK {
		t.Errorf("ReadKey %q: got %v and %s, want %v", text, back, impl.CodeName(code), key)
	}
}

func TestKeysByHand(t *testing.T) {
	var steps impl.Mask
	for y := range steps {
		steps[y] = uint16(y * 0x1111)
	}
	cases := map[string]impl.Mask{
		"88201fb960ff64651a7b968f849e4dc2": {}, "15fba226ae480b455ef5327ea3625112": fullMask(),
		"88201fb960ff64661a7b968f849e4dc3": {15: 1}, "aa0559e690b5e0a06f1a1d9b57f315a7": {1}, "ef414f10c8d0e06f509841788cd3440a": {3, 1},
		"2536b7949f1ce4655e018039e890cdc2": {0x8000}, "88201fb9610064641a7b968f849f4dc1": {15: 0xffff}, "b77543a373eca4adaa75b143a5d215ba": steps,
	}
	for text, m := range cases {
		key := impl.KeyOfMask(m)
		wantWord(t, fmt.Sprintf("KeyText of the key of %04x", m), impl.KeyText(key), 0, text, 0)
		back, code := impl.ReadKey(text)
		wantBool(t, "ReadKey "+text, back == key, code, true, impl.OK)
	}
}

func TestMaskKeys(t *testing.T) {
	random := rand.New(rand.NewSource(800))
	for _, m := range manyMasks(random, 400) {
		checkKey(t, m)
	}
	// A mask that differs in one number has another key, and differs in both halves of it.
	for range 200 {
		m := randomMask(random)
		for y := range m {
			other := m
			other[y] ^= uint16(1 + random.Intn(0xffff))
			checkKey(t, other)
			a, b := impl.KeyOfMask(m), impl.KeyOfMask(other)
			if [8]byte(a[:8]) == [8]byte(b[:8]) || [8]byte(a[8:]) == [8]byte(b[8:]) {
				t.Errorf("%04x and %04x have the keys %x and %x", m, other, a, b)
			}
		}
	}
	seen := map[impl.MaskKey]impl.Mask{}
	for y := range 16 {
		for x := range 16 {
			m := impl.Mask{}
			m[y] = 1 << x
			checkKey(t, m)
			if other, isThere := seen[impl.KeyOfMask(m)]; isThere {
				t.Errorf("%04x and %04x have one key", m, other)
			}
			seen[impl.KeyOfMask(m)] = m
		}
	}
}

// Keys need not be those of masks.
func TestKeyTexts(t *testing.T) {
	random := rand.New(rand.NewSource(801))
	keys := []impl.MaskKey{{}, {0: 1}, {15: 1}, {0: 0x10}, {15: 0x10}, {0xff}, {15: 0xff}, {0x9a, 0xa9, 0x0f, 0xf0}}
	for range 300 {
		var key impl.MaskKey
		random.Read(key[:])
		keys = append(keys, key)
	}
	for i := range 256 {
		key := impl.MaskKey{}
		key[i%16] = byte(i)
		keys = append(keys, key)
	}
	for _, key := range keys {
		text := impl.KeyText(key)
		wantWord(t, "KeyText", text, 0, fmt.Sprintf("%032x", key[:]), 0)
		back, code := impl.ReadKey(text)
		wantBool(t, "ReadKey "+text, back == key, code, true, impl.OK)
	}
}

// checkReadKey checks ReadKey for any text.
func checkReadKey(t *testing.T, text string) int64 {
	t.Helper()
	var want impl.MaskKey
	wantCode := int64(impl.ErrSyntax)
	if data, err := hex.DecodeString(text); err == nil && len(text) == 32 && strings.ToLower(text) == text {
		want, wantCode = impl.MaskKey(data), impl.OK
	}
	key, code := impl.ReadKey(text)
	if key != want || code != wantCode {
		t.Errorf("ReadKey %q: got %v and %s, want %v and %s", text, key, impl.CodeName(code), want, impl.CodeName(wantCode))
	}
	return code
}

func TestNoKeyTexts(t *testing.T) {
	text := "0123456789abcdef9876543210fedcba"
	wantNumber(t, "ReadKey", checkReadKey(t, text), impl.OK)
	wrong := []string{"", "0", "00", text[:31], text[:30], text[:16], text + "0", text + "00", text + text, text[:31] + "\n", text + "\n", " " + text, " " + text[:31], text[:31] + " ",
		"0x" + text, "0x" + text[:30], "-" + text[:31], "+" + text[:31], strings.ToUpper(text), "none", strings.Repeat("é", 16), strings.Repeat("é", 32), strings.Repeat("٣", 16), strings.Repeat("0", 1000000)}
	for _, sign := range []string{"A", "B", "C", "D", "E", "F"} {
		wrong = append(wrong, strings.Repeat("0", 31)+sign, sign+strings.Repeat("0", 31))
	}
	for _, w := range wrong {
		wantNumber(t, fmt.Sprintf("ReadKey of %d bytes", len(w)), checkReadKey(t, w), impl.ErrSyntax)
	}
	for at := range text {
		for sign := range 256 {
			checkReadKey(t, text[:at]+string([]byte{byte(sign)})+text[at+1:])
		}
		checkReadKey(t, text[:at]+text[at+1:])
		checkReadKey(t, text[:at]+"0"+text[at:])
	}
}
