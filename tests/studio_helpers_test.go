package tests

import (
	"fmt"
	"math/big"
	"math/rand"
	"slices"
	"strings"
	"testing"

	"loop.example/g01171/impl"
)

// trip is a parcel that has no mask and no key, but the bits that are not as they were.
type trip struct {
	back   bool
	worker int64
	at     impl.Corner
	spoilt uint16
}

// workshop is a valid studio after some deeds, the shelves of which are told by what has been drawn.
type workshop struct {
	studio  impl.Studio
	corners []impl.Corner
	masks   map[impl.Corner]impl.Mask
	hands   map[int64]impl.Corner
	wire    []trip
	drawn   []impl.Corner
	synced  int
	codes   []int64
}

// studioCorners tells the corners of a studio, sorted by their rows and columns.
func studioCorners(s impl.Studio) []impl.Corner {
	var list []impl.Corner
	for i := s.Low[0]; i <= s.High[0]; i++ {
		for j := s.Low[1]; j <= s.High[1]; j++ {
			list = append(list, impl.Corner{i, j})
		}
	}
	slices.SortFunc(list, func(a, b impl.Corner) int {
		if a[1] != b[1] {
			return int(a[1] - b[1])
		}
		return int(a[0] - b[0])
	})
	return list
}

func openWorkshop(s impl.Studio) *workshop {
	w := &workshop{studio: s, corners: studioCorners(s), masks: map[impl.Corner]impl.Mask{}, hands: map[int64]impl.Corner{}}
	k := sketchOf(s.Scene)
	for _, at := range w.corners {
		w.masks[at], _ = k.block(at)
	}
	return w
}

func (w *workshop) missing() []impl.Corner {
	return slices.DeleteFunc(slices.Clone(w.corners), func(at impl.Corner) bool { return slices.Contains(w.drawn, at) })
}

// refusal tells the error of a deed that cannot be done.
func (w *workshop) refusal(d impl.Deed) int64 {
	isAtWorker := slices.Contains([]int64{impl.DdGive, impl.DdWork, impl.DdQuit}, d.Kind)
	isOfParcel := slices.Contains([]int64{impl.DdDeliver, impl.DdCopy, impl.DdDrop, impl.DdSpoil}, d.Kind)
	_, isBusy := w.hands[d.A]
	switch {
	case isAtWorker && d.A >= w.studio.Workers, isOfParcel && d.A >= int64(len(w.wire)), d.Kind == impl.DdSpoil && d.B > 15:
		return impl.ErrRange
	case d.Kind == impl.DdGive && len(w.drawn) == len(w.corners), d.Kind == impl.DdWork && !isBusy, d.Kind == impl.DdSpoil && !w.wire[d.A].back:
		return impl.ErrState
	case (d.Kind == impl.DdGive || d.Kind == impl.DdWork) && len(w.wire) >= 12:
		return impl.ErrLimit
	}
	return impl.OK
}

func (w *workshop) comesIn(p trip) {
	_, isBusy := w.hands[p.worker]
	if !p.back && !isBusy {
		w.hands[p.worker] = p.at
	}
	if p.back && p.spoilt == 0 && !slices.Contains(w.drawn, p.at) {
		w.drawn = append(w.drawn, p.at)
	}
}

// do does a valid deed, if it can be done, and keeps its code.
func (w *workshop) do(d impl.Deed) int64 {
	code := w.refusal(d)
	w.codes = append(w.codes, code)
	if code != impl.OK {
		return code
	}
	if d.Kind == impl.DdDeliver || d.Kind == impl.DdCopy {
		w.comesIn(w.wire[d.A])
	}
	switch d.Kind {
	case impl.DdGive:
		w.wire = append(w.wire, trip{worker: d.A, at: w.missing()[0]})
	case impl.DdWork:
		w.wire = append(w.wire, trip{back: true, worker: d.A, at: w.hands[d.A]})
		delete(w.hands, d.A)
	case impl.DdDeliver, impl.DdDrop:
		w.wire = slices.Delete(w.wire, int(d.A), int(d.A)+1)
	case impl.DdSpoil:
		w.wire[d.A].spoilt ^= 1 << d.B
	case impl.DdSync:
		w.synced = len(w.drawn)
	case impl.DdCrash:
		w.drawn = w.drawn[:w.synced]
	case impl.DdQuit:
		delete(w.hands, d.A)
	}
	return code
}

// done tells how many deeds have been done.
func (w *workshop) done() int64 {
	n := int64(0)
	for _, code := range w.codes {
		if code == impl.OK {
			n++
		}
	}
	return n
}

// house tells what there is, with masks and keys.
func (w *workshop) house() impl.House {
	h := impl.House{Synced: int64(w.synced)}
	for _, at := range w.drawn {
		key := maskKeyForTest(w.masks[at])
		h.Drawn = append(h.Drawn, impl.Drawn{At: at, Key: key})
		if shelf := (impl.Shelf{Key: key, Mask: w.masks[at]}); !slices.Contains(h.Shelves, shelf) {
			h.Shelves = append(h.Shelves, shelf)
		}
	}
	for i := range w.studio.Workers {
		at, isBusy := w.hands[i]
		h.Hands = append(h.Hands, impl.Hand{Busy: isBusy, At: at})
	}
	for _, p := range w.wire {
		parcel := impl.Parcel{Back: p.back, Worker: p.worker, At: p.at}
		if p.back {
			parcel.Mask, parcel.Key = w.masks[p.at], maskKeyForTest(w.masks[p.at])
			parcel.Mask[0] ^= p.spoilt
		}
		h.Wire = append(h.Wire, parcel)
	}
	return h
}

// picture tells the blocks that have been drawn and have a cell.
func (w *workshop) picture() []impl.Block {
	var list []impl.Block
	for _, at := range w.corners {
		if m := w.masks[at]; slices.Contains(w.drawn, at) && len(setOfMask(m)) > 0 {
			list = append(list, impl.Block{At: at, Mask: m})
		}
	}
	return list
}

// plan tells the deeds of FinishDeeds.
func (w *workshop) plan() []impl.Deed {
	text := strings.Repeat("drop 0; ", len(w.wire)) + "quit 0; "
	text += strings.Repeat("give 0; deliver 0; work 0; deliver 0; ", len(w.missing()))
	return deedsOf(text + "sync")
}

// houseText tells what there is in short: what has been drawn, "/" being behind what is synced; the shelves; the hands; and the wire.
// Corners are letters in their order, and masks those of the first corner that has them; ">0a" is a parcel to the worker 0, and "<0a*" a spoilt one from there.
func houseText(s impl.Studio, h impl.House) string {
	w := openWorkshop(s)
	letter := func(i int) string { return string(rune('a' + i)) }
	letterAt := func(at impl.Corner) string { return letter(slices.Index(w.corners, at)) }
	drawn, shelves, hands := "", "", ""
	for _, d := range h.Drawn {
		drawn += letterAt(d.At)
	}
	drawn = drawn[:h.Synced] + "/" + drawn[h.Synced:]
	for _, shelf := range h.Shelves {
		shelves += letter(slices.IndexFunc(w.corners, func(at impl.Corner) bool { return w.masks[at] == shelf.Mask }))
	}
	for _, hand := range h.Hands {
		if hand.Busy {
			hands += letterAt(hand.At)
		} else {
			hands += "-"
		}
	}
	words := []string{drawn, "[" + shelves + "]", hands}
	for _, p := range h.Wire {
		word := fmt.Sprint(map[bool]string{false: ">", true: "<"}[p.Back], p.Worker) + letterAt(p.At)
		if p.Back && p.Mask != w.masks[p.At] {
			word += "*"
		}
		words = append(words, word)
	}
	return strings.Join(words, " ")
}

// deedWords tells the words of deeds, and how many numbers are behind them, by their kinds.
func deedWords() []struct {
	word    string
	numbers int
} {
	return []struct {
		word    string
		numbers int
	}{
		{}, {"give", 1}, {"work", 1}, {"deliver", 1}, {"copy", 1}, {"drop", 1}, {"spoil", 2}, {"sync", 0}, {"crash", 0}, {"quit", 1},
	}
}

// deedsOf tells the deeds with texts that are separated by "; ".
func deedsOf(text string) []impl.Deed {
	var list []impl.Deed
	for _, part := range strings.Split(text, "; ") {
		if part == "" {
			continue
		}
		var word string
		var d impl.Deed
		fmt.Sscan(part, &word, &d.A, &d.B)
		for kind, how := range deedWords() {
			if how.word == word {
				d.Kind = int64(kind)
			}
		}
		list = append(list, d)
	}
	return list
}

// maskKeyForTest tells a key: both numbers are values of a polynomial.
func maskKeyForTest(m impl.Mask) impl.MaskKey {
	var key impl.MaskKey
	for i, words := range [][2]string{{"14695981039346656037", "1099511628211"}, {"7809847782465536322", "6364136223846793005"}} {
		sum, _ := new(big.Int).SetString(words[0], 10)
		factor, _ := new(big.Int).SetString(words[1], 10)
		sum.Mul(sum, new(big.Int).Exp(factor, big.NewInt(16), nil))
		for y, n := range m {
			part := new(big.Int).Exp(factor, big.NewInt(int64(15-y)), nil)
			sum.Add(sum, part.Mul(part, big.NewInt(int64(n))))
		}
		sum.Mod(sum, new(big.Int).Lsh(big.NewInt(1), 64)).FillBytes(key[8*i : 8*i+8])
	}
	return key
}

func sameHouses(g, h impl.House) bool {
	return slices.Equal(g.Drawn, h.Drawn) && slices.Equal(g.Shelves, h.Shelves) && g.Synced == h.Synced && slices.Equal(g.Hands, h.Hands) && slices.Equal(g.Wire, h.Wire)
}

func wantHouse(t *testing.T, name string, got impl.House, done, code int64, want impl.House, wantDone, wantCode int64) {
	t.Helper()
	if !sameHouses(got, want) || done != wantDone || code != wantCode {
		t.Errorf("%s: got %v, %d and %s, want %v, %d and %s", name, got, done, impl.CodeName(code), want, wantDone, impl.CodeName(wantCode))
	}
}

func wantDeeds(t *testing.T, name string, got []impl.Deed, code int64, want []impl.Deed, wantCode int64) {
	t.Helper()
	if !slices.Equal(got, want) || code != wantCode {
		t.Errorf("%s: got %v and %s, want %v and %s", name, got, impl.CodeName(code), want, impl.CodeName(wantCode))
	}
}

// checkRefused checks RefusedDeed behind deeds that a workshop has been given.
func checkRefused(t *testing.T, name string, w *workshop, deeds []impl.Deed) {
	t.Helper()
	at, bad, code := impl.RefusedDeed(w.studio, deeds)
	want := fmt.Sprint(0, 0, impl.ErrNotFound)
	if i := slices.IndexFunc(w.codes, func(code int64) bool { return code != impl.OK }); i >= 0 {
		want = fmt.Sprint(i, w.codes[i], impl.OK)
	}
	if got := fmt.Sprint(at, bad, code); got != want {
		t.Errorf("RefusedDeed of %s: got %s, want %s", name, got, want)
	}
}

// checkMasks checks MaskAfter for all corners and some others.
func checkMasks(t *testing.T, name string, w *workshop, deeds []impl.Deed) {
	t.Helper()
	for _, at := range append(outsideOf(w.studio), w.corners...) {
		var want impl.Mask
		wantCode := int64(impl.ErrNotFound)
		if !slices.Contains(w.corners, at) {
			wantCode = impl.ErrRange
		} else if slices.Contains(w.drawn, at) {
			want, wantCode = w.masks[at], impl.OK
		}
		m, code := impl.MaskAfter(w.studio, deeds, at)
		wantMask(t, fmt.Sprint("MaskAfter ", at, " of ", name), m, code, want, wantCode)
	}
}

// outsideOf tells corners that are not those of a studio.
func outsideOf(s impl.Studio) []impl.Corner {
	return []impl.Corner{
		{s.Low[0] - 1, s.Low[1]}, {s.Low[0], s.Low[1] - 1}, {s.High[0] + 1, s.High[1]}, {s.High[0], s.High[1] + 1},
		{s.Low[0], s.High[1] + 1}, {s.High[0] + 1, s.Low[1]}, {-1 << 31, 1<<31 - 1}, {s.Low[0] + 1<<16, s.Low[1]},
	}
}

// checkDeeds checks all functions that do no more than MaxDeeds valid deeds in a valid studio, and returns what there is then.
func checkDeeds(t *testing.T, s impl.Studio, deeds []impl.Deed) *workshop {
	t.Helper()
	w, name := openWorkshop(s), fmt.Sprint(deeds, " in ", s)
	for _, d := range deeds {
		w.do(d)
	}
	h, done, code := impl.HouseAfter(s, deeds)
	wantHouse(t, "HouseAfter "+name, h, done, code, w.house(), w.done(), impl.OK)
	checkRefused(t, name, w, deeds)
	checkMasks(t, name, w, deeds)
	corners, code := impl.MissingAfter(s, deeds)
	wantCorners(t, "MissingAfter "+name, corners, code, w.missing(), impl.OK)
	picture, code := impl.PictureAfter(s, deeds)
	wantPicture(t, "PictureAfter "+name, picture, code, w.picture(), impl.OK)
	wantPlan, wantCode := w.plan(), int64(impl.OK)
	if len(deeds)+len(wantPlan) > 300 {
		wantPlan, wantCode = nil, impl.ErrLimit
	}
	plan, code := impl.FinishDeeds(s, deeds)
	wantDeeds(t, "FinishDeeds "+name, plan, code, wantPlan, wantCode)
	return w
}

// studioOf has no more corners than a studio may have.
func studioOf(s impl.Scene, low, high impl.Corner, workers int64) impl.Studio {
	return impl.Studio{Scene: s, Low: low, High: high, Workers: workers}
}

// exampleStudio has four corners, the first one of which has no cell.
func exampleStudio(workers int64) impl.Studio {
	return studioOf(sceneOf(1, discOp(0, 1)), impl.Corner{-1, -1}, impl.Corner{0, 0}, workers)
}

// twinStudio has six corners in two rows, with the masks 1, 1, none, 2, 1 and 2.
func twinStudio(workers int64) impl.Studio {
	s := sceneOf(1, discOp(0, 0.5), discOp(16, 0.5), discOp(1+16i, 0.5), discOp(16+16i, 0.5), discOp(33+16i, 0.5))
	return studioOf(s, impl.Corner{0, 0}, impl.Corner{2, 1}, workers)
}

// randomStudio has few corners, mostly such as have cells.
func randomStudio(random *rand.Rand) impl.Studio {
	for {
		scene := randomScene(random)
		k := sketchOf(scene)
		list, code := k.inRows()
		if code != impl.OK || len(list) == 0 && random.Intn(4) > 0 {
			continue
		}
		var at impl.Corner
		if len(list) > 0 {
			c := list[random.Intn(len(list))]
			at, _, _, _ = impl.BlockAt(int64(c[0]), int64(c[1]))
		}
		columns, rows := random.Int31n(4), random.Int31n(3)
		low := impl.Corner{max(at[0]-random.Int31n(columns+1), -62500), max(at[1]-random.Int31n(rows+1), -62500)}
		high := impl.Corner{min(low[0]+columns, 62500), min(low[1]+rows, 62500)}
		return studioOf(scene, low, high, 1+random.Int63n(4))
	}
}

// anyStudio is one of these.
func anyStudio(random *rand.Rand) impl.Studio {
	switch random.Intn(3) {
	case 0:
		return exampleStudio(1 + random.Int63n(4))
	case 1:
		return twinStudio(1 + random.Int63n(4))
	}
	return randomStudio(random)
}

// manners tells how often there are deeds of which kinds: on lines that lose much, on calm ones, and on such as are crowded.
func manners() [][]int64 {
	return [][]int64{
		{1, 1, 1, 1, 2, 2, 2, 2, 2, 3, 3, 3, 3, 3, 3, 4, 4, 5, 6, 6, 7, 8, 9},
		{1, 1, 1, 1, 2, 2, 2, 2, 2, 3, 3, 3, 3, 3, 3, 3, 3, 3, 4, 7},
		{1, 1, 1, 1, 1, 2, 2, 2, 4, 4, 4, 4, 6, 7, 3, 8},
	}
}

// nextDeed mostly tells one that can be done.
func (w *workshop) nextDeed(random *rand.Rand, kinds []int64) impl.Deed {
	d := impl.Deed{Kind: kinds[random.Intn(len(kinds))]}
	switch d.Kind {
	case impl.DdGive, impl.DdWork, impl.DdQuit:
		d.A = random.Int63n(w.studio.Workers)
	case impl.DdDeliver, impl.DdCopy, impl.DdDrop, impl.DdSpoil:
		d.A = random.Int63n(int64(max(len(w.wire), 1)))
	}
	if d.Kind == impl.DdSpoil {
		d.B = []int64{0, 1, 15, 16, random.Int63n(17)}[random.Intn(5)]
	}
	if d.Kind < impl.DdSync && random.Intn(20) == 0 {
		d.A = []int64{w.studio.Workers, int64(len(w.wire)), 12, 999}[random.Intn(4)]
	}
	return d
}

// randomDeeds tells deeds, one behind the other, as they may happen.
func randomDeeds(random *rand.Rand, s impl.Studio, n int) []impl.Deed {
	w, kinds := openWorkshop(s), manners()[random.Intn(3)]
	deeds := make([]impl.Deed, n)
	for i := range deeds {
		deeds[i] = w.nextDeed(random, kinds)
		w.do(deeds[i])
	}
	return deeds
}

// studioFunctions tells all functions of studios that return a code.
func studioFunctions(s impl.Studio, deeds []impl.Deed, at impl.Corner, text string) map[string]func() ([]any, int64) {
	calls := deedFunctions(s, deeds, at)
	calls["CornersOf"] = func() ([]any, int64) { return boxed(impl.CornersOf(s)) }
	calls["RunScript"] = func() ([]any, int64) { return boxed(impl.RunScript(s, text)) }
	return calls
}

// deedFunctions does the same for those that do deeds.
func deedFunctions(s impl.Studio, deeds []impl.Deed, at impl.Corner) map[string]func() ([]any, int64) {
	return map[string]func() ([]any, int64){
		"HouseAfter":   func() ([]any, int64) { return boxedTwo(impl.HouseAfter(s, deeds)) },
		"RefusedDeed":  func() ([]any, int64) { return boxedTwo(impl.RefusedDeed(s, deeds)) },
		"MissingAfter": func() ([]any, int64) { return boxed(impl.MissingAfter(s, deeds)) },
		"MaskAfter":    func() ([]any, int64) { return boxed(impl.MaskAfter(s, deeds, at)) },
		"PictureAfter": func() ([]any, int64) { return boxed(impl.PictureAfter(s, deeds)) },
		"FinishDeeds":  func() ([]any, int64) { return boxed(impl.FinishDeeds(s, deeds)) },
	}
}

// wantAllCodes checks that all of these calls return a code, and nothing else.
func wantAllCodes(t *testing.T, name string, calls map[string]func() ([]any, int64), want int64) {
	t.Helper()
	for function, call := range calls {
		if results, code := call(); code != want || !areZero(results) {
			t.Errorf("%s with %s: got %v and %s, want %s", function, name, results, impl.CodeName(code), impl.CodeName(want))
		}
	}
}
