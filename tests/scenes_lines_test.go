package tests

import (
	"fmt"
	"math/rand"
	"regexp"
	"slices"
	"strings"
	"testing"

	"loop.example/g01171/impl"
)

// linePatterns are those of all lines of the table, N standing for a number.
var linePatterns = compilePatterns("side N", "map N N N N N N N N", "clear", "spot N N", "far", `depth ([0-9]{1,2})`, `word ([a-dA-D]{0,40})`, "orbit", "limit", "leaves N", "disc N N N")

func compilePatterns(patterns ...string) []*regexp.Regexp {
	var list []*regexp.Regexp
	for _, pattern := range patterns {
		list = append(list, regexp.MustCompile(`\A`+strings.ReplaceAll(pattern, "N", "("+numberPattern+")")+`\z`))
	}
	return list
}

// sceneModel reads lines as the table says.
type sceneModel struct {
	scene   impl.Scene
	hasSide bool
	maps    []impl.Map
	spot    impl.Spot
	depth   int64
}

// codeOf tells the error that comes first, in pairs of whether it is there, and of its code.
func codeOf(errors ...any) int64 {
	for i := 0; i < len(errors); i += 2 {
		if errors[i].(bool) {
			return int64(errors[i+1].(int))
		}
	}
	return impl.OK
}

// line does a line, or tells its error.
func (m *sceneModel) line(text string) int64 {
	for _, pattern := range linePatterns {
		if parts := pattern.FindStringSubmatch(text); parts != nil {
			word, _, _ := strings.Cut(text, " ")
			return m.do(word, parts[1:])
		}
	}
	return impl.ErrSyntax
}

// hasNoMapFor reports whether a word has a letter for which there is no map.
func (m *sceneModel) hasNoMapFor(w string) bool {
	return strings.ContainsFunc(w, func(r rune) bool { return letterPlace(byte(r))/2 >= len(m.maps) })
}

func (m *sceneModel) do(word string, parts []string) int64 {
	n := make([]float32, 8)
	for i, part := range parts {
		n[i], _ = numberForTest(part)
	}
	small, code := float32(0), int64(impl.OK)
	hasNoMaps, isFull := len(m.maps) == 0, len(m.scene.Ops) == 8
	switch word {
	case "side":
		if code = codeOf(n[0] <= 0, impl.ErrRange, m.hasSide, impl.ErrState); code == impl.OK {
			m.scene.Side, m.hasSide = n[0], true
		}
	case "map":
		made := mapOfReals([8]float32(n))
		if code = codeOf(!isValidForTest(made), impl.ErrRange, len(m.maps) == 4, impl.ErrLimit); code == impl.OK {
			m.maps = append(slices.Clone(m.maps), made)
		}
	case "clear":
		m.maps = nil
	case "spot":
		m.spot = near(complex(n[0], n[1]))
	case "far":
		m.spot = farSpot
	case "depth":
		if code = codeOf(n[0] > 12, impl.ErrRange); code == impl.OK {
			m.depth = int64(n[0])
		}
	case "word":
		if code = codeOf(m.hasNoMapFor(parts[0]), impl.ErrRange); code == impl.OK {
			m.spot = spotOfWordForTest(m.maps, parts[0], m.spot)
		}
	case "disc":
		if code = codeOf(n[2] <= 0, impl.ErrRange, isFull, impl.ErrLimit); code == impl.OK {
			m.scene.Ops = append(m.scene.Ops, discOp(complex(n[0], n[1]), n[2]))
		}
	case "leaves":
		small = n[0]
		code = codeOf(n[0] <= 0, impl.ErrRange, m.spot.Far, impl.ErrState)
		fallthrough
	default:
		if code == impl.OK {
			code = codeOf(hasNoMaps, impl.ErrState, isFull, impl.ErrLimit)
		}
		if code == impl.OK {
			kind := map[string]int64{"orbit": impl.OpOrbit, "limit": impl.OpLimit, "leaves": impl.OpLeaves}[word]
			m.scene.Ops = append(m.scene.Ops, impl.Op{Kind: kind, Family: familyOf(m.maps...), Spot: m.spot, Depth: m.depth, Small: small})
		}
	}
	return code
}

func compileForTest(text string) (impl.Scene, int64, int64) {
	if len(text) > 4000 {
		return impl.Scene{}, 0, impl.ErrRange
	}
	lines := strings.Split(text, "\n")
	if lines[len(lines)-1] == "" {
		lines = lines[:len(lines)-1]
	}
	var m sceneModel
	for i, line := range lines {
		if code := m.line(line); code != impl.OK {
			return impl.Scene{}, int64(i), code
		}
	}
	if !m.hasSide {
		return impl.Scene{}, int64(len(lines)), impl.ErrState
	}
	return m.scene, 0, impl.OK
}

func checkCompiled(t *testing.T, text string) int64 {
	t.Helper()
	s, line, code := impl.CompileScene(text)
	want, wantLine, wantCode := compileForTest(text)
	wantScene(t, fmt.Sprintf("CompileScene %.500q", text), s, line, code, want, wantLine, wantCode)
	if code == impl.OK && !impl.ValidScene(s) {
		t.Errorf("CompileScene %q: got %v, which is not valid", text, s)
	}
	return code
}

// Lines that put maps, spots and operations in place, as long as something has to be there.
const (
	shiftLine = "map 1 0 1 0 0 0 1 0\n"
	flipLine  = "map 0 0 1 0 1 0 0 0\n"
	noMap     = "1 0 1 0 1 0 1 0"
)

func fullOps() string { return strings.Repeat("disc 0 0 1\n", 8) }

func fullMaps() string { return strings.Repeat(shiftLine, 4) }

func TestLinesOfScenes(t *testing.T) {
	shift, flip := impl.Map{A: 1, B: 1, D: 1}, impl.Map{B: 1, C: 1}
	odd := impl.Map{A: 1 - 2i, B: 0.5 + 0.25i, C: -3 - 0.375i, D: 4 + 5i}
	cases := map[string]impl.Scene{
		"side 1":                  sceneOf(1),
		"side 1\n":                sceneOf(1),
		"side 000003/8":           sceneOf(0.375),
		"side 999999":             sceneOf(999999),
		"clear\nside 1/1024\nfar": sceneOf(0x1p-10),
		"disc 1/2 -3 7/4\nside 2": sceneOf(2, discOp(0.5-3i, 1.75)),
		"side 1\n" + shiftLine + "orbit\nlimit\nleaves 1/2\ndisc -0 -0 1": sceneOf(1, orbitOp(familyOf(shift), near(0), 0), limitOp(familyOf(shift), near(0), 0), leavesOp(familyOf(shift), 0, 0.5, 0), discOp(0, 1)),
		// The order of all eight numbers shows.
		"side 1\nmap 1 -2 1/2 1/4 -3 -3/8 4 5\ndepth 07\nspot -1/2 6\nlimit": sceneOf(1, limitOp(familyOf(odd), near(-0.5+6i), 7)),
		// What comes later does not change what has been added.
		"side 1\n" + shiftLine + "depth 2\nspot 1 2\norbit\n" + flipLine + "depth 3\nfar\norbit\nclear\n" + flipLine + "spot 3 0\ndepth 12\nleaves 5": sceneOf(1, orbitOp(familyOf(shift), near(1+2i), 2), orbitOp(familyOf(shift, flip), farSpot, 3), leavesOp(familyOf(flip), 3, 5, 12)),
		// A list that has been cleared may be full again.
		"side 1\n" + fullMaps() + "orbit\nclear\n" + strings.Repeat(flipLine, 4) + "orbit": sceneOf(1, orbitOp(familyOf(shift, shift, shift, shift), near(0), 0), orbitOp(familyOf(flip, flip, flip, flip), near(0), 0)),
		"clear\nclear\nside 1\n" + shiftLine + "clear":                                     sceneOf(1),
		// Words take the spot on: the last letter is done first.
		"side 1\n" + shiftLine + flipLine + "spot 1 0\nword ab\norbit":              sceneOf(1, orbitOp(familyOf(shift, flip), near(2), 0)),
		"side 1\n" + shiftLine + flipLine + "spot 1 0\nword ba\norbit":              sceneOf(1, orbitOp(familyOf(shift, flip), near(0.5), 0)),
		"side 1\n" + shiftLine + "word aa\nword aaA\nlimit":                         sceneOf(1, limitOp(familyOf(shift), near(3), 0)),
		"side 1\n" + shiftLine + flipLine + "word b\norbit":                         sceneOf(1, orbitOp(familyOf(shift, flip), farSpot, 0)),
		"side 1\n" + shiftLine + flipLine + "far\nword ab\norbit":                   sceneOf(1, orbitOp(familyOf(shift, flip), near(1), 0)),
		"side 1\n" + shiftLine + "word " + strings.Repeat("a", 40) + "\norbit":      sceneOf(1, orbitOp(familyOf(shift), near(40), 0)),
		"side 1\n" + shiftLine + "word " + strings.Repeat("aA", 20) + "\norbit":     sceneOf(1, orbitOp(familyOf(shift), near(0), 0)),
		"side 1\n" + fullMaps() + "word dDcCbBaAabcd\nclear\n" + flipLine + "orbit": sceneOf(1, orbitOp(familyOf(flip), near(4), 0)),
		// The empty text is a word, also without maps.
		"side 1\nspot 5 0\nword \n" + shiftLine + "orbit": sceneOf(1, orbitOp(familyOf(shift), near(5), 0)),
		"side 1\n" + shiftLine + "depth 0\norbit\ndepth 9\norbit\ndepth 10\norbit\ndepth 00\norbit\ndepth 12\norbit": sceneOf(1,
			orbitOp(familyOf(shift), near(0), 0), orbitOp(familyOf(shift), near(0), 9), orbitOp(familyOf(shift), near(0), 10), orbitOp(familyOf(shift), near(0), 0), orbitOp(familyOf(shift), near(0), 12)),
		fullOps() + "side 3": sceneOf(3, slices.Repeat([]impl.Op{discOp(0, 1)}, 8)...),
	}
	for text, want := range cases {
		s, line, code := impl.CompileScene(text)
		wantScene(t, fmt.Sprintf("CompileScene %q", text), s, line, code, want, 0, impl.OK)
		checkCompiled(t, text)
	}
}

// lineErrors tells errors of single lines, behind some lines that are done.
func lineErrors() map[[2]string]int64 {
	syntax, outside, limit, state := int64(impl.ErrSyntax), int64(impl.ErrRange), int64(impl.ErrLimit), int64(impl.ErrState)
	return map[[2]string]int64{
		{"", "side 0"}: outside, {"", "side -0"}: outside, {"", "side -1"}: outside, {"", "side -1/1024"}: outside, {"", "side 0/2"}: outside,
		{"side 1\n", "side 1"}: state, {"side 1\n", "side 2"}: state, {"side 1\n", "side 0"}: outside, {"side 1\n", "side -1"}: outside,
		{"side 1\n", "side x"}: syntax, {"side 1\n", "side"}: syntax, {"side 1\n", "side 0 0"}: syntax, {"", "side 1/3"}: syntax, {"", "side 0/1"}: syntax,

		{"", "map " + noMap}: outside, {"", "map 0 0 0 0 0 0 0 0"}: outside, {fullMaps(), "map " + noMap}: outside, {fullMaps(), shiftLine[:len(shiftLine)-1]}: limit,
		{fullMaps(), "map 1 0 1 0 0 0 1"}: syntax, {fullMaps(), "map 1 0 1 0 1 0 1 0 0"}: syntax, {fullMaps(), "map 1 0 1 0 1 0 1 x"}: syntax, {"", "map 1 0 1 0 1 0 1 1/3"}: syntax, {"", "map x 0 1 0 1 0 1 0"}: syntax,
		{fullMaps(), "map"}: syntax, {"", "map"}: syntax, {"", "map 1 0 0 0 0 0 1"}: syntax, {"", "map 1 0 0 0 0 0 1 0 0"}: syntax,

		{"", "clear 1"}: syntax, {"", "clear clear"}: syntax, {"", "far 0"}: syntax, {"", "spot 1"}: syntax, {"", "spot 1 2 3"}: syntax, {"", "spot x 1"}: syntax, {"", "spot 1 x"}: syntax, {"", "spot"}: syntax, {"", "spot far"}: syntax,

		{"", "depth 13"}: outside, {"", "depth 99"}: outside, {"", "depth 013"}: syntax, {"", "depth 012"}: syntax, {"", "depth 000"}: syntax, {"", "depth 100"}: syntax, {"", "depth "}: syntax, {"", "depth"}: syntax,
		{"", "depth -1"}: syntax, {"", "depth -0"}: syntax, {"", "depth +1"}: syntax, {"", "depth 1/2"}: syntax, {"", "depth 2/2"}: syntax, {"", "depth 1 2"}: syntax, {"", "depth 13 1"}: syntax, {"", "depth x"}: syntax, {"", "depth 1x"}: syntax, {"", "depth 1.0"}: syntax,

		{"", "word a"}: outside, {"", "word A"}: outside, {"", "word D"}: outside, {shiftLine, "word b"}: outside, {shiftLine, "word aab"}: outside, {shiftLine, "word Baa"}: outside, {fullMaps() + "clear\n", "word a"}: outside,
		{fullMaps(), "word e"}: syntax, {fullMaps(), "word a1"}: syntax, {fullMaps(), "word 1"}: syntax, {fullMaps(), "word -"}: syntax, {fullMaps(), "word a a"}: syntax, {fullMaps(), "word"}: syntax, {"", "word"}: syntax, {shiftLine, "word abE"}: syntax, {shiftLine, "word bx"}: syntax, {"", "word x"}: syntax, {shiftLine, "word  "}: syntax, {shiftLine, "word a "}: syntax, {shiftLine, "word  a"}: syntax,
		{shiftLine, "word " + strings.Repeat("a", 41)}: syntax, {"", "word " + strings.Repeat("a", 41)}: syntax, {shiftLine, "word " + strings.Repeat("b", 41)}: syntax, {shiftLine, "word " + strings.Repeat("b", 40)}: outside, {"far\n", "word a"}: outside, {"far\n", "word x"}: syntax,

		{"", "orbit"}: state, {fullOps(), "orbit"}: state, {shiftLine + fullOps(), "orbit"}: limit, {shiftLine + "clear\n", "orbit"}: state, {shiftLine + fullOps() + "clear\n", "orbit"}: state, {shiftLine + fullOps(), "orbit 1"}: syntax, {"", "orbit 1"}: syntax, {shiftLine, "orbit orbit"}: syntax,
		{"", "limit"}: state, {fullOps(), "limit"}: state, {shiftLine + fullOps(), "limit"}: limit, {shiftLine + "clear\n", "limit"}: state, {shiftLine + fullOps(), "limit 1"}: syntax, {"", "limit 1"}: syntax, {shiftLine + "far\n" + fullOps(), "limit"}: limit, {shiftLine + "far\n" + fullOps(), "orbit"}: limit,

		{shiftLine, "leaves 0"}: outside, {shiftLine, "leaves -1"}: outside, {shiftLine, "leaves -0"}: outside, {"", "leaves 1"}: state, {shiftLine + "far\n", "leaves 1"}: state, {"far\n", "leaves 1"}: state, {shiftLine + fullOps(), "leaves 1"}: limit, {shiftLine + "clear\n", "leaves 1"}: state,
		{"", "leaves 0"}: outside, {shiftLine + "far\n", "leaves 0"}: outside, {shiftLine + fullOps(), "leaves 0"}: outside, {"far\n" + fullOps(), "leaves -1/2"}: outside, {fullOps(), "leaves 1"}: state, {shiftLine + "far\n" + fullOps(), "leaves 1"}: state,
		{"", "leaves"}: syntax, {"", "leaves x"}: syntax, {"", "leaves 0 1"}: syntax, {shiftLine + "far\n" + fullOps(), "leaves 1/3"}: syntax, {shiftLine + flipLine + "word b\n", "leaves 1"}: state,

		{"", "disc 0 0 0"}: outside, {"", "disc 1 1 -1"}: outside, {"", "disc 1 1 -0"}: outside, {fullOps(), "disc 0 0 1"}: limit, {fullOps(), "disc 0 0 0"}: outside, {fullOps(), "disc 0 0 -1/2"}: outside, {fullOps(), "disc 0 0"}: syntax, {fullOps(), "disc 0 0 0 0"}: syntax, {fullOps(), "disc x 0 0"}: syntax, {"", "disc 0 x 0"}: syntax, {"", "disc 0 0 x"}: syntax, {"", "disc 1"}: syntax, {"", "disc"}: syntax, {"far\n", "disc 0 0 0"}: outside,

		{"", ""}: syntax, {"", " "}: syntax, {"", "  "}: syntax, {"", "x"}: syntax, {"", "Side 1"}: syntax, {"", "SIDE 1"}: syntax, {"", "Clear"}: syntax, {"", "Far"}: syntax, {"", "faR"}: syntax, {shiftLine, "Orbit"}: syntax, {shiftLine, "Limit"}: syntax, {"", "Disc 0 0 1"}: syntax, {shiftLine, "Leaves 1"}: syntax, {"", "Depth 1"}: syntax, {"", "Word a"}: syntax, {"", "Spot 0 0"}: syntax, {"", "Map 1 0 0 0 0 0 1 0"}: syntax,
		{"", "sides 1"}: syntax, {"", "sid 1"}: syntax, {"", "clea"}: syntax, {"", "clears"}: syntax, {"", "far\x00"}: syntax, {"", "1"}: syntax, {"", "# far"}: syntax, {"", "side1"}: syntax, {"", "side\t1"}: syntax, {"", "side 1\r"}: syntax, {"", "far\r"}: syntax, {"", "disk 0 0 1"}: syntax, {"", "end"}: syntax,
		{"", " far"}: syntax, {"", "far "}: syntax, {"", "far  "}: syntax, {"", " side 1"}: syntax, {"", "side 1 "}: syntax, {"", "side  1"}: syntax, {"", "side "}: syntax, {"", "side  "}: syntax, {"", "spot 1  2"}: syntax, {"", "spot  1 2"}: syntax, {"", "spot 1 2 "}: syntax, {"", "spot 1 "}: syntax, {"", "spot  1"}: syntax, {"", "disc 0 0 1 "}: syntax, {"", "disc 0  0 1"}: syntax, {"", "depth 1 "}: syntax, {"", "depth  1"}: syntax, {"", "clear "}: syntax, {shiftLine, "orbit "}: syntax, {shiftLine, " limit"}: syntax, {shiftLine, "leaves 1 "}: syntax, {shiftLine, "leaves  1"}: syntax, {"", "map 1 0 0 0 0 0 1 0 "}: syntax, {"", "map 1 0 0  0 0 0 1 0"}: syntax, {"", "map  1 0 0 0 0 0 1 0"}: syntax,
	}
}

func TestErrorsOfLines(t *testing.T) {
	for lines, want := range lineErrors() {
		// The error stays, wherever the side is, and whatever comes behind the line.
		for _, ahead := range []string{"", "disc 0 0 1\nclear\nfar\nspot 0 0\n"} {
			if strings.Contains(lines[0], fullOps()) {
				ahead = strings.TrimPrefix(ahead, "disc 0 0 1\n")
			}
			for _, behind := range []string{"", "\n", "\nfar\nside 5\n", "\nx\n", "\nside 0", "\n\n\n"} {
				text := ahead + lines[0] + lines[1] + behind
				if lines[1]+behind == "" {
					continue // there is no such line
				}
				s, line, code := impl.CompileScene(text)
				wantScene(t, fmt.Sprintf("CompileScene %q", text), s, line, code, impl.Scene{}, int64(strings.Count(ahead+lines[0], "\n")), want)
				checkCompiled(t, text)
			}
		}
	}
}

// In each line, a number that is none is found ahead of all other errors of the line.
func TestNumbersOfLines(t *testing.T) {
	lines := []string{"side 0", "side 1", "map " + noMap, "map 1 0 1 0 0 0 1 0", "spot 1 2", "leaves 0", "leaves 1", "disc 0 0 0", "disc 0 0 1"}
	for _, ahead := range []string{"", "side 1\n" + fullMaps() + fullOps() + "far\n", "far\n" + fullOps()} {
		for _, line := range lines {
			words := strings.Split(line, " ")
			for i := 1; i < len(words); i++ {
				for _, none := range []string{"", "-", "x", "1/3", "1000000", "+1", "1/", "/2", "0x", "1/02", "1/2048", "--1", "1/-2", "1.5", "a"} {
					other := slices.Clone(words)
					other[i] = none
					text := ahead + strings.Join(other, " ")
					s, at, code := impl.CompileScene(text)
					wantScene(t, fmt.Sprintf("CompileScene %q", text), s, at, code, impl.Scene{}, int64(strings.Count(ahead, "\n")), impl.ErrSyntax)
				}
				fewer, more := slices.Delete(slices.Clone(words), i, i+1), slices.Insert(slices.Clone(words), i, "1")
				for _, other := range [][]string{fewer, more} {
					text := ahead + strings.Join(other, " ")
					if _, at, code := impl.CompileScene(text); code != impl.ErrSyntax || at != int64(strings.Count(ahead, "\n")) {
						t.Errorf("CompileScene %q: got %s in %d", text, impl.CodeName(code), at)
					}
				}
			}
		}
	}
}

func TestEndsOfSceneTexts(t *testing.T) {
	long := "side 1\n" + strings.Repeat("clear\n", 665)
	cases := []struct {
		text       string
		line, code int64
	}{
		{"", 0, impl.ErrState}, {"\n", 0, impl.ErrSyntax}, {"\n\n", 0, impl.ErrSyntax}, {"\n\n\n", 0, impl.ErrSyntax}, {" ", 0, impl.ErrSyntax}, {" \n", 0, impl.ErrSyntax},
		{"far", 1, impl.ErrState}, {"far\n", 1, impl.ErrState}, {"far\n\n", 1, impl.ErrSyntax}, {"far\nfar", 2, impl.ErrState}, {"far\nfar\n", 2, impl.ErrState}, {"far\nclear\nspot 1 2\n", 3, impl.ErrState},
		{"side 1", 0, impl.OK}, {"side 1\n", 0, impl.OK}, {"side 1\n\n", 1, impl.ErrSyntax}, {"side 1\n\n\n", 1, impl.ErrSyntax}, {"\nside 1", 0, impl.ErrSyntax}, {"\nside 1\n", 0, impl.ErrSyntax}, {"side 1\n\nfar\n", 1, impl.ErrSyntax}, {"side 1\r\n", 0, impl.ErrSyntax}, {"side 1\r\nfar\r\n", 0, impl.ErrSyntax}, {"side 1\n\r", 1, impl.ErrSyntax},
		{"side 1\nfar\nside 0\nside 0", 2, impl.ErrRange}, {"side 1\nx\nside 0", 1, impl.ErrSyntax}, {"side 0\nx", 0, impl.ErrRange}, {"x\nside 0", 0, impl.ErrSyntax}, {"far\nside 1\nside 2\nside x", 2, impl.ErrState},
		{fullOps() + "disc 0 0 1", 8, impl.ErrLimit}, {fullOps() + "side 1\ndisc 0 0 1\n", 9, impl.ErrLimit}, {"side 1\n" + shiftLine + strings.Repeat("orbit\nlimit\nleaves 1\ndisc 0 0 1\n", 2), 0, impl.OK}, {shiftLine + strings.Repeat("orbit\nlimit\nleaves 1\ndisc 0 0 1\n", 2) + "limit", 9, impl.ErrLimit},
		{long, 0, impl.OK}, {long[:3996], 0, impl.OK}, {long[:3995], 665, impl.ErrSyntax}, {long + "far", 0, impl.OK}, {long + "far\n", 0, impl.ErrRange}, {long + "\n", 666, impl.ErrSyntax},
		{"side 1/2\n" + strings.Repeat("far\n", 997) + "far", 0, impl.OK}, {"side 1/4\n" + strings.Repeat("far\n", 998), 0, impl.ErrRange},
		{"side 1\n" + strings.Repeat("far\n", 998) + "f", 999, impl.ErrSyntax}, {"side 1\n" + strings.Repeat("far\n", 998) + "fa", 0, impl.ErrRange},
		{strings.Repeat("x", 4000), 0, impl.ErrSyntax}, {strings.Repeat("x", 4001), 0, impl.ErrRange}, {strings.Repeat("\n", 4000), 0, impl.ErrSyntax}, {strings.Repeat("\n", 4001), 0, impl.ErrRange}, {strings.Repeat("far\n", 1000), 1000, impl.ErrState}, {strings.Repeat("far\n", 1000) + "f", 0, impl.ErrRange},
		{strings.Repeat("far\n", 999) + "x\n", 999, impl.ErrSyntax}, {strings.Repeat(" ", 4000), 0, impl.ErrSyntax}, {"far\n" + strings.Repeat(" ", 4000), 0, impl.ErrRange}, {"side 1\n" + strings.Repeat("side 0\n", 600), 0, impl.ErrRange}, {strings.Repeat("é", 2000), 0, impl.ErrSyntax}, {strings.Repeat("é", 2001), 0, impl.ErrRange},
	}
	for _, c := range cases {
		_, line, code := impl.CompileScene(c.text)
		if line != c.line || code != c.code {
			t.Errorf("CompileScene %.40q of %d bytes: got %d and %s, want %d and %s", c.text, len(c.text), line, impl.CodeName(code), c.line, impl.CodeName(c.code))
		}
		checkCompiled(t, c.text)
	}
}

// randomNumberText is mostly a small number.
func randomNumberText(random *rand.Rand) string {
	text := fmt.Sprint(random.Intn(9) - 2)
	switch random.Intn(8) {
	case 0:
		return text + fmt.Sprint("/", 1<<(1+random.Intn(10)))
	case 1:
		return fmt.Sprintf("%0*d", 1+random.Intn(6), random.Intn(1000000))
	case 2:
		return []string{"0", "-0", "-1/2", "1/1024"}[random.Intn(4)]
	}
	return text
}

func randomLine(random *rand.Rand) string {
	numbers := func(n int) string {
		text := ""
		for range n {
			text += " " + randomNumberText(random)
		}
		return text
	}
	switch random.Intn(13) {
	case 0:
		return "side" + numbers(1)
	case 1, 2:
		return "map" + numbers(8)
	case 3:
		return []string{"clear", "far", "depth " + fmt.Sprint(random.Intn(14))}[random.Intn(3)]
	case 4:
		return "spot" + numbers(2)
	case 5:
		return "word " + randomWord(random, 1+random.Intn(3), random.Intn(6))
	case 6, 7:
		return "orbit"
	case 8:
		return "limit"
	case 9:
		return "leaves" + numbers(1)
	case 10:
		return "disc" + numbers(3)
	}
	return shiftLine[:len(shiftLine)-1]
}

// spoiled is a text in which a byte has been left out, changed, or put in.
func spoiled(random *rand.Rand, text string) string {
	at := random.Intn(len(text) + 1)
	sign := string("abdflmors019 -/\n"[random.Intn(16)])
	switch {
	case random.Intn(2) == 0 || at == len(text):
		return text[:at] + sign + text[at:]
	case random.Intn(2) == 0:
		return text[:at] + text[at+1:]
	}
	return text[:at] + sign + text[at+1:]
}

func TestRandomSceneTexts(t *testing.T) {
	random := rand.New(rand.NewSource(610))
	codes := map[int64]int{}
	for range 20000 {
		lines := []string{"side" + " " + fmt.Sprint(1+random.Intn(9))}
		for range random.Intn(16) {
			lines = append(lines, randomLine(random))
		}
		at := random.Intn(len(lines))
		lines[0], lines[at] = lines[at], lines[0]
		text := strings.Join(lines, "\n")
		if random.Intn(2) == 0 {
			text += "\n"
		}
		if random.Intn(4) == 0 {
			text = spoiled(random, text)
		}
		codes[checkCompiled(t, text)]++
	}
	for _, code := range []int64{impl.OK, impl.ErrRange, impl.ErrLimit, impl.ErrState, impl.ErrSyntax} {
		if codes[code] < 20 {
			t.Errorf("only %d texts have the code %s", codes[code], impl.CodeName(code))
		}
	}
	wantNumber(t, "codes", int64(len(codes)), 5)
}
