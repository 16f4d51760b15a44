package tests

import (
	"fmt"
	"math/rand"
	"strings"
	"testing"

	"loop.example/g01171/impl"
)

// replyForTest tells the answer to a line.
func (w *workshop) replyForTest(line string) string {
	switch line {
	case "drawn":
		return fmt.Sprint(len(w.drawn), " ", w.synced, " ", len(w.house().Shelves))
	case "keys":
		text := ""
		for _, shelf := range w.house().Shelves {
			text += fmt.Sprintf(" %x", shelf.Key[:])
		}
		if text == "" {
			return "none"
		}
		return text[1:]
	case "count":
		return fmt.Sprint(len(setOfBlocks(w.picture())))
	}
	d, code := readDeedForTest(line)
	if code != impl.OK {
		return "what"
	}
	return map[int64]string{impl.OK: "ok", impl.ErrRange: "error range", impl.ErrState: "error state", impl.ErrLimit: "error limit"}[w.do(d)]
}

// scriptForTest tells what RunScript has to return in a valid studio.
func scriptForTest(s impl.Studio, text string) (string, int64) {
	var lines []string
	for rest := text; rest != ""; {
		line, behind, _ := strings.Cut(rest, "\n")
		lines, rest = append(lines, line), behind
	}
	if len(text) > 20000 || len(lines) > 120 {
		return "", impl.ErrRange
	}
	w, out := openWorkshop(s), ""
	for _, line := range lines {
		out += w.replyForTest(line) + "\n"
	}
	return out, impl.OK
}

// checkScript checks RunScript, and returns what it answers.
func checkScript(t *testing.T, s impl.Studio, text string) (string, int64) {
	t.Helper()
	out, code := impl.RunScript(s, text)
	want, wantCode := scriptForTest(s, text)
	wantWord(t, fmt.Sprintf("RunScript %.500q", text), out, code, want, wantCode)
	return out, code
}

// wantScript checks it for lines, and what they answer, both separated by "; ".
func wantScript(t *testing.T, s impl.Studio, lines, answers string) {
	t.Helper()
	text, want := strings.ReplaceAll(lines, "; ", "\n"), strings.ReplaceAll(answers, "; ", "\n")+"\n"
	for _, end := range []string{"", "\n"} {
		out, code := checkScript(t, s, text+end)
		wantWord(t, fmt.Sprintf("RunScript %q", text), out, code, want, impl.OK)
	}
}

func TestScriptsByHand(t *testing.T) {
	s := exampleStudio(1)
	const a, b, c, d = "88201fb960ff64651a7b968f849e4dc2", "88201fb960ff64661a7b968f849e4dc3", "2536b7949f1ce4655e018039e890cdc2", "ef414f10c8d0e06f509841788cd3440a"
	wantScript(t, s, "drawn; keys; count", "0 0 0; none; 0")
	wantScript(t, s, "drawn", "0 0 0")
	wantScript(t, s, "give 0; deliver 0; work 0; deliver 0; drawn; keys; count", "ok; ok; ok; ok; 1 0 1; "+a+"; 0")
	wantScript(t, s, strings.TrimSuffix(draws(4), "; ")+"; drawn; keys; count; sync; drawn; crash; drawn; keys", strings.Repeat("ok; ", 16)+"4 0 4; "+a+" "+b+" "+c+" "+d+"; 5; ok; 4 4 4; ok; 4 4 4; "+a+" "+b+" "+c+" "+d)
	wantScript(t, s, draws(2)+"sync; "+draws(1)+"drawn; count; keys; crash; drawn; count; keys", strings.Repeat("ok; ", 13)+"3 2 3; 2; "+a+" "+b+" "+c+"; ok; 2 2 2; 1; "+a+" "+b)
	wantScript(t, s, "crash; sync; quit 0; work 0; give 1; deliver 0", "ok; ok; ok; error state; error range; error range")
	wantScript(t, s, gives(12)+"give 0; drawn", strings.Repeat("ok; ", 12)+"error limit; 0 0 0")
	wantScript(t, s, draws(4)+"give 0; spoil 0 0; drop 0", strings.Repeat("ok; ", 16)+"error state; error range; error range")
	wantScript(t, s, "give 0; spoil 0 0; spoil 0 16; deliver 0; work 0; spoil 0 16; spoil 0 15; deliver 0; drawn", "ok; error state; error range; ok; ok; error range; ok; ok; 0 0 0")
	// What is no line changes nothing.
	wantScript(t, s, "give 0; Give 0; give; give 00; give  0; give 0 ; deliver 0; x; work 0", "ok; what; what; what; what; what; ok; what; ok")
	wantScript(t, s, "drawn ;  drawn; Drawn; drawn 0; DRAWN; keys ; key; count 1; counts; none; ok; what", strings.Repeat("what; ", 11)+"what")
	wantScript(t, twinStudio(3), draws(6)+"drawn; count; keys", strings.Repeat("ok; ", 24)+"6 0 3; 5; aa0559e690b5e0a06f1a1d9b57f315a7 "+a+" "+impl.KeyText(maskKeyForTest(impl.Mask{2})))
}

// There are numbers of two digits, also of shelves.
func TestScriptsOfGreatStudios(t *testing.T) {
	low, high := impl.Corner{-3, -2}, impl.Corner{2, 1}
	wantScript(t, studioOf(sceneOf(1), low, high, 1), draws(12)+"drawn; sync; "+draws(12)+"drawn; crash; drawn", strings.Repeat("ok; ", 48)+"12 0 1; ok; "+strings.Repeat("ok; ", 48)+"24 12 1; ok; 12 12 1")
	// The great disc has 8 blocks, all of which differ, the others have one each, and there are blocks without cells.
	s := studioOf(sceneOf(1, discOp(0.3+0.1i, 17), discOp(40+24i, 3), discOp(-40-24i, 2)), low, high, 1)
	wantScript(t, s, draws(24)+"drawn; sync; drawn; crash; drawn; count", strings.Repeat("ok; ", 96)+"24 0 11; ok; 24 24 11; ok; 24 24 11; "+fmt.Sprint(len(sketchOf(s.Scene).cells)))
}

func TestLinesOfScripts(t *testing.T) {
	s := exampleStudio(1)
	for text, want := range map[string]string{
		"": "", "\n": "what\n", "\n\n": "what\nwhat\n", "\n\n\n": "what\nwhat\nwhat\n", "sync": "ok\n", "sync\n": "ok\n", "sync\n\n": "ok\nwhat\n", "\nsync": "what\nok\n", "sync\n\nsync": "ok\nwhat\nok\n",
		" ": "what\n", "\r\n": "what\n", "sync\r\n": "what\n", "sync\rsync": "what\n", "sync\x00": "what\n", "sync sync": "what\n", "sync;sync": "what\n", "sync\n ": "ok\nwhat\n", "\xff\xfe": "what\n", "é\n": "what\n", "sync\vdrawn\f": "what\n", "sync\u2028sync": "what\n", "drawn\ndrawn": "0 0 0\n0 0 0\n",
	} {
		out, code := checkScript(t, s, text)
		wantWord(t, fmt.Sprintf("RunScript %q", text), out, code, want, impl.OK)
	}
	for line := range 256 {
		checkScript(t, s, string([]byte{byte(line)}))
		checkScript(t, s, "give 0\nsync"+string([]byte{byte(line)})+"drawn\n")
	}
}

func TestLimitsOfScripts(t *testing.T) {
	s := exampleStudio(1)
	lines := func(n int, line string) string { return strings.Repeat(line+"\n", n) }
	long := func(n int) string { return strings.Repeat("x", n) }
	for _, c := range []struct {
		name, text string
		code       int64
	}{
		{"most lines", lines(120, "sync"), impl.OK}, {"most lines without a newline", strings.TrimSuffix(lines(120, "sync"), "\n"), impl.OK},
		{"a line more", lines(121, "sync"), impl.ErrRange}, {"a line more without a newline", lines(120, "sync") + "s", impl.ErrRange}, {"an empty line more", lines(120, "sync") + "\n", impl.ErrRange},
		{"most newlines", lines(120, ""), impl.OK}, {"a newline more", lines(121, ""), impl.ErrRange}, {"one less", lines(119, ""), impl.OK}, {"one less and a line", lines(119, "") + "drawn", impl.OK},
		{"most bytes", long(20000), impl.OK}, {"most bytes with a newline", long(19999) + "\n", impl.OK}, {"a newline too many", long(20000) + "\n", impl.ErrRange}, {"a byte more", long(20001), impl.ErrRange},
		{"both", long(20000-119) + lines(119, ""), impl.OK}, {"both, and a byte more", long(20001-119) + lines(119, ""), impl.ErrRange}, {"both, and a line more", long(20000-121) + lines(121, ""), impl.ErrRange},
		{"very many bytes", long(1000000), impl.ErrRange}, {"very many lines", lines(500000, ""), impl.ErrRange}, {"as many lines as bytes", lines(20000, ""), impl.ErrRange}, {"many lines behind much", long(30000) + lines(300, ""), impl.ErrRange},
		{"many bytes of several each", strings.Repeat("é", 10000), impl.OK}, {"many more of these", strings.Repeat("é", 10001), impl.ErrRange},
	} {
		_, code := checkScript(t, s, c.text)
		wantNumber(t, "RunScript of "+c.name, code, c.code)
		wantAllCodes(t, c.name, map[string]func() ([]any, int64){"RunScript": func() ([]any, int64) { return boxed(impl.RunScript(impl.Studio{}, c.text)) }}, impl.ErrInvalid)
	}
}

func TestRandomScripts(t *testing.T) {
	random := rand.New(rand.NewSource(840))
	answers := map[string]int{}
	for range 500 {
		s := anyStudio(random)
		w, kinds := openWorkshop(s), manners()[random.Intn(3)]
		text := ""
		for range random.Intn(124) {
			line := []string{"drawn", "keys", "count", "", "give", "crash 0", "work -1"}[random.Intn(7)]
			if random.Intn(8) > 0 {
				d := w.nextDeed(random, kinds)
				w.do(d)
				line, _ = deedText(d)
			}
			text += line + "\n"
		}
		if random.Intn(10) == 0 {
			text = spoiled(random, text)
		}
		if random.Intn(3) == 0 {
			text = strings.TrimSuffix(text, "\n")
		}
		out, code := checkScript(t, s, text)
		for _, line := range strings.Split(out, "\n") {
			answers[line]++
		}
		answers[impl.CodeName(code)]++
		// A script and its deeds tell the same.
		var deeds []impl.Deed
		for line := range strings.Lines(text) {
			if d, code := impl.ReadDeed(strings.TrimSuffix(line, "\n")); code == impl.OK {
				deeds = append(deeds, d)
			}
		}
		if picture, deedsCode := impl.PictureAfter(s, deeds); code == impl.OK && deedsCode == impl.OK && strings.Count(text, "\n") < 119 {
			count, _ := impl.CountPicture(picture)
			out, _ = impl.RunScript(s, strings.TrimSuffix(text, "\n")+"\ncount")
			wantBool(t, "the count behind "+text, strings.HasSuffix(out, fmt.Sprint("\n", count, "\n")), 0, true, 0)
		}
	}
	for _, answer := range []string{"ok", "error range", "error state", "error limit", "what", "none", "0 0 0", "0", "1 0 1", "2 1 2", "range"} {
		if answers[answer] < 5 {
			t.Errorf("only %d answers are %q", answers[answer], answer)
		}
	}
}
