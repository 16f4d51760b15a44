package tests

import (
	"fmt"
	"math/rand"
	"strings"
	"testing"

	"loop.example/g01171/impl"
)

// leafWalk walks to leaves without the program.
type leafWalk struct {
	f      impl.Family
	x      complex64
	small  float32
	depth  int
	most   int
	leaves []impl.Visit
	code   int64
}

// from walks on from a word with a map.
func (l *leafWalk) from(w string, m impl.Map) {
	stretch, isFound := stretchForTest(m, l.x)
	if len(w) == l.depth || w != "" && isFound && stretch <= l.small {
		l.leaves = append(l.leaves, impl.Visit{Word: w, Spot: applyForTest(m, near(l.x))})
		if len(l.leaves) > l.most {
			l.code = impl.ErrLimit
		}
		return
	}
	for _, letter := range []byte(letterOrder[:2*len(l.f.Maps)]) {
		if w != "" && w[len(w)-1] == otherCase(letter) {
			continue
		}
		longer, code := composeForTest(m, mapOfLetterForTest(l.f.Maps, letter))
		if l.code == impl.OK {
			l.code = code
		}
		if l.code != impl.OK {
			return
		}
		l.from(w+string(letter), longer)
	}
}

func leavesForTest(f impl.Family, x complex64, small float32, depth int64, most int) ([]impl.Visit, int64) {
	l := leafWalk{f: f, x: x, small: small, depth: int(depth), most: most}
	l.from("", impl.Map{A: 1, D: 1})
	if l.code != impl.OK {
		return nil, l.code
	}
	return l.leaves, impl.OK
}

func checkLeaves(t *testing.T, f impl.Family, x complex64, small float32, depth int64) ([]impl.Visit, int64) {
	t.Helper()
	leaves, code := impl.LeavesOf(f, x, small, depth)
	want, wantCode := leavesForTest(f, x, small, depth, impl.MaxVisits)
	wantVisits(t, fmt.Sprint("LeavesOf ", f, x, small, depth), leaves, code, want, wantCode)
	return leaves, code
}

func TestLeavesOf(t *testing.T) {
	random := rand.New(rand.NewSource(420))
	codes, early, deep, unfound := map[int64]int{}, 0, 0, 0
	for range 250 {
		f := anyFamily(random, 4)
		x := randomSpot(random).At
		small := []float32{0.9, 0.5, 0.1, 0.01, 1, 3, least, greatest, infinite}[random.Intn(9)]
		depth := random.Int63n(min(mostDepth(f)+3, impl.MaxDepth+1))
		leaves, code := checkLeaves(t, f, x, small, depth)
		codes[code]++
		for _, v := range leaves {
			m, _ := impl.MapOfWord(f.Maps, v.Word)
			at, code := impl.ApplyMap(m, near(x))
			wantSpot(t, "the spot of "+v.Word, v.Spot, impl.OK, at, code)
			if int64(len(v.Word)) < depth {
				early++
			} else if stretch, isFound := stretchForTest(m, x); !isFound {
				unfound++
			} else if stretch > small {
				deep++
			}
		}
	}
	if codes[impl.OK] == 0 || codes[impl.ErrLimit] == 0 || early == 0 || deep == 0 || unfound == 0 {
		t.Errorf("codes %v; %d leaves ahead of the depth, %d at it, %d without a stretch", codes, early, deep, unfound)
	}
}

func TestLeavesOfEdges(t *testing.T) {
	times, flip := familyOf(impl.Map{A: 2, D: 1}), familyOf(impl.FlipMap())
	great := familyOf(impl.Map{A: 0x1p100, D: 1})                             // of which aa has no map
	untidy := familyOf(impl.Map{A: 0x1p100, D: 0x1p-100})                     // of which a has none
	mixed := familyOf(impl.Map{A: 2, D: 1}, impl.Map{A: 0x1p100, D: 0x1p-49}) // of which b has one, and ba and bb have none
	cases := []struct {
		f     impl.Family
		x     complex64
		small float32
		depth int64
		want  []impl.Visit
		code  int64
	}{
		{shifts(1), 0, 0.5, 1, visitsOf("a", 1+0i, "A", -1+0i), impl.OK}, {shifts(1), 0, 0.5, 3, visitsOf("aaa", 3+0i, "AAA", -3+0i), impl.OK}, {shifts(1), 0, 0.99999994, 12, visitsOf("aaaaaaaaaaaa", 12+0i, "AAAAAAAAAAAA", -12+0i), impl.OK},
		{shifts(1), 5, 1, 3, visitsOf("a", 6+0i, "A", 4+0i), impl.OK},                                            // just small
		{shifts(1), 5, 1, 0, visitsOf("", 5+0i), impl.OK}, {shifts(1), 5, least, 0, visitsOf("", 5+0i), impl.OK}, // the empty word at the depth
		{shifts(1), 5, 2, 1, visitsOf("a", 6+0i, "A", 4+0i), impl.OK},                                       // the empty word is small, and not at the depth
		{times, 1, 0.5, 4, visitsOf("aaaa", 16+0i, "A", 0.5+0i), impl.OK},                                   // just small
		{times, 1, 0.49999997, 4, visitsOf("aaaa", 16+0i, "AA", 0.25+0i), impl.OK},                          // a little less
		{times, 1, 0.25, 4, visitsOf("aaaa", 16+0i, "AA", 0.25+0i), impl.OK},                                // just small again
		{times, 1, 0.2, 2, visitsOf("aa", 4+0i, "AA", 0.25+0i), impl.OK},                                    // the depth is first
		{times, 1, infinite, 4, visitsOf("a", 2+0i, "A", 0.5+0i), impl.OK},                                  // each stretch is small
		{times, 1, greatest, 4, visitsOf("a", 2+0i, "A", 0.5+0i), impl.OK},                                  // each of these, too
		{flip, 0, infinite, 3, visitsOf("aa", 0i, "AA", 0i), impl.OK},                                       // no stretch is found for one letter
		{flip, 0, infinite, 1, visitsOf("a", "far", "A", "far"), impl.OK},                                   // nor needed at the depth
		{flip, 2, 0.25, 3, visitsOf("a", 0.5+0i, "A", 0.5+0i), impl.OK},                                     // just small
		{flip, 2, 0.24999999, 3, visitsOf("aaa", 0.5+0i, "AAA", 0.5+0i), impl.OK},                           // aa has 1
		{great, 0, 1e-10, 5, nil, impl.ErrLimit}, {great, 0, 1e-10, 1, visitsOf("a", 0i, "A", 0i), impl.OK}, // a is composed, and aa is not
		{great, 0, infinite, 12, visitsOf("a", 0i, "A", 0i), impl.OK},                         // aa is not met
		{untidy, 0, 1, 1, nil, impl.ErrLimit}, {untidy, 7, 1, 0, visitsOf("", 7+0i), impl.OK}, // a cannot be composed
		{mixed, 0, 2, 3, nil, impl.ErrLimit},                                                   // behind the leaves a and A
		{shifts(1, 2), 0, 0.5, 6, nil, impl.OK}, {shifts(1, 2), 0, 0.5, 7, nil, impl.ErrLimit}, // 972 and 2916
		{shifts(1, 2, 3, 4), 0, 0.5, 12, nil, impl.ErrLimit}, {shifts(1, 2, 3, 4), 0, 1, 12, nil, impl.OK}, // many and 8
		{shifts(1, 2, 3), 0, 0.5, 4, nil, impl.OK}, {shifts(1, 2, 3), 0, 0.5, 5, nil, impl.ErrLimit}, // 750 and 3750
		{shifts(1, 2, 3, 4), 0, 0.5, 3, nil, impl.OK}, {shifts(1, 2, 3, 4), 0, 0.5, 4, nil, impl.ErrLimit}, // 392 and 2744
		{familyOf(great.Maps[0], shifts(1).Maps[0]), 0, 1, 4, nil, impl.ErrLimit}, {mixed, 0, least, 3, nil, impl.ErrLimit},
	}
	for _, c := range cases {
		leaves, code := checkLeaves(t, c.f, c.x, c.small, c.depth)
		if code != c.code {
			t.Errorf("LeavesOf %v, %v, %g and %d: got %s, want %s", c.f, c.x, c.small, c.depth, impl.CodeName(code), impl.CodeName(c.code))
		}
		if c.want != nil {
			wantEqualVisits(t, fmt.Sprint("LeavesOf ", c.f, c.x, c.small, c.depth), leaves, code, c.want, c.code)
		}
	}
}

// Of two maps, leaves are an even number: MaxVisits of them are not too many, and two more are.
func TestMostLeaves(t *testing.T) {
	cases := []struct {
		f     impl.Family
		x     complex64
		small float32
	}{
		{familyOf(impl.Map{B: 2 - 1i, C: -1 + 3i, D: 2}, impl.Map{A: 3 - 3i, B: 1 + 3i, C: -1 - 2i, D: 2}), 0.5i, 0.04503573},
		{familyOf(impl.Map{A: -2 + 1i, B: 3 + 3i, C: 1 + 1i, D: -3 + 3i}, impl.Map{A: -1 + 3i, B: -3i, C: -2 + 1i}), -1, 0.97673833},
	}
	for _, c := range cases {
		leaves, code := checkLeaves(t, c.f, c.x, c.small, impl.MaxDepth)
		wantNumber(t, "leaves", int64(len(leaves)), impl.MaxVisits)
		wantNumber(t, "code", code, impl.OK)
		below := impl.NextBelow(c.small)
		more, _ := leavesForTest(c.f, c.x, below, impl.MaxDepth, 2*impl.MaxVisits)
		wantNumber(t, "leaves", int64(len(more)), impl.MaxVisits+2)
		_, code = checkLeaves(t, c.f, c.x, below, impl.MaxDepth)
		wantNumber(t, "code", code, impl.ErrLimit)
	}
}

func TestErrorsOfLeaves(t *testing.T) {
	want := func(f impl.Family, x complex64, small float32, depth, wantCode int64) {
		t.Helper()
		leaves, code := impl.LeavesOf(f, x, small, depth)
		wantVisits(t, fmt.Sprint("LeavesOf ", f, x, small, depth), leaves, code, nil, wantCode)
	}
	for _, f := range invalidFamilies() {
		want(f, 1, 1, 1, impl.ErrInvalid)
		want(f, complex(notNumber, 0), -1, 13, impl.ErrInvalid)
	}
	untidy := impl.Map{A: 0x1p100, D: 0x1p-100}
	for _, f := range []impl.Family{shifts(1), shifts(1, 2, 3, 4), familyOf(untidy)} {
		for _, depth := range oddDepths() {
			want(f, 1, 1, depth, impl.ErrRange)
		}
		for _, x := range oddPoints() {
			want(f, x, 1, 1, impl.ErrRange)
			want(f, x, 1, 12, impl.ErrRange)
		}
		for _, small := range []float32{0, minusZero, minus(least), -1, minus(greatest), minus(infinite), notNumber, minus(notNumber), ofBits(0x7f800001)} {
			want(f, 1, small, 0, impl.ErrRange)
			want(f, 1, small, 12, impl.ErrRange)
		}
	}
}

// No leaf begins another one, and each longest word begins with one.
func TestLeavesCoverAllWords(t *testing.T) {
	random := rand.New(rand.NewSource(421))
	for range 150 {
		f := anyFamily(random, 3)
		depth := random.Int63n(min(mostDepth(f), 6) + 1)
		leaves, code := impl.LeavesOf(f, randomSpot(random).At, 0.25, depth)
		if code != impl.OK {
			continue
		}
		for i, v := range leaves {
			for j, u := range leaves {
				if i != j && strings.HasPrefix(u.Word, v.Word) {
					t.Errorf("LeavesOf %v: %s begins %s", f, v.Word, u.Word)
				}
			}
			if !isWordReduced(v.Word) {
				t.Errorf("LeavesOf %v: got %s", f, v.Word)
			}
		}
		// The words at the depth come in the order in which the leaves do that begin them.
		next := 0
		for _, w := range reducedWords(len(f.Maps), int(depth)) {
			if !strings.HasPrefix(w, leaves[next].Word) {
				next++
			}
			if next == len(leaves) || !strings.HasPrefix(w, leaves[next].Word) {
				t.Fatalf("LeavesOf %v: no leaf begins %s", f, w)
			}
		}
		wantNumber(t, "leaves that begin words", int64(next+1), int64(len(leaves)))
	}
}
