package impl

import (
	"cmp"
	"math"
	"math/bits"
	"slices"
	"strconv"
	"strings"
)

// Error codes.
const (
	OK          = 0
	ErrInvalid  = 1
	ErrRange    = 2
	ErrLimit    = 3
	ErrState    = 4
	ErrSyntax   = 5
	ErrNotFound = 6
	ErrBudget   = 7
	ErrProof    = 8
)

// Kinds of narrow numbers.
const (
	KdZero      = 0
	KdSubnormal = 1
	KdNormal    = 2
	KdInfinite  = 3
	KdNaN       = 4
)

// MaxList is the greatest length of a list.
const MaxList = 256

// The bits of a narrow number: its sign, and below it the exponent and the fraction.
const (
	signBit      = 1 << 31
	sizeMask     = signBit - 1
	infiniteBits = 0x7f800000
	nanBits      = 0x7fc00000
	fractionSize = 23
	hiddenBit    = 1 << fractionSize
)

const (
	leastExponent = -149
	greatestScale = 400
	maxFraction   = 1 << 53
	realDigits    = 8
	nanText       = "nan"
)

// An exactSum has room for the terms of all functions, of which those of ScaleReal go
// farthest: the bits of their fractions have places from onePlace - 549 to onePlace + 527.
const (
	limbCount  = 24
	limbSize   = 64
	onePlace   = 640
	leastPlace = onePlace + leastExponent
)

// kind is the kind of a narrow number, one of KdZero to KdNaN.
type kind int64

// limbs is a number in two's complement, the lowest limb first; its bit with the
// place onePlace stands for 1.
type limbs [limbCount]uint64

// oddTerms tells which terms that are not finite a sum has.
type oddTerms struct {
	nan, above, below bool
}

// exactSum is a sum of which nothing has been rounded yet.
type exactSum struct {
	finite limbs
	odd    oddTerms
}

// CodeName returns the name of an error code.
func CodeName(code int64) string {
	switch code {
	case OK:
		return "ok"
	case ErrInvalid:
		return "invalid"
	case ErrRange:
		return "range"
	case ErrLimit:
		return "limit"
	case ErrState:
		return "state"
	case ErrSyntax:
		return "syntax"
	case ErrNotFound:
		return "notfound"
	case ErrBudget:
		return "budget"
	case ErrProof:
		return "proof"
	}
	return ""
}

func (k kind) isFinite() bool { return k < KdInfinite }

func (k kind) isNaN() bool { return k == KdNaN }

func kindOf(a float32) kind {
	size := math.Float32bits(a) & sizeMask
	switch {
	case size == 0:
		return KdZero
	case size < hiddenBit:
		return KdSubnormal
	case size < infiniteBits:
		return KdNormal
	case size == infiniteBits:
		return KdInfinite
	}
	return KdNaN
}

// KindOf returns the kind of a number.
func KindOf(a float32) int64 { return int64(kindOf(a)) }

// SameReal reports whether two numbers are the same.
func SameReal(a, b float32) bool {
	if kindOf(a).isNaN() {
		return kindOf(b).isNaN()
	}
	return math.Float32bits(a) == math.Float32bits(b)
}

func isNegative(a float32) bool { return math.Float32bits(a)&signBit != 0 }

func opposite(a float32) float32 {
	return math.Float32frombits(math.Float32bits(a) ^ signBit)
}

// withSign returns a number that is not negative, or its opposite.
func withSign(negative bool, a float32) float32 {
	if negative {
		return opposite(a)
	}
	return a
}

// SplitReal returns the parts of a number.
func SplitReal(a float32) (bool, int64, int64, int64) {
	size := int64(math.Float32bits(a) & sizeMask)
	switch kindOf(a) {
	case KdZero, KdSubnormal:
		return isNegative(a), size, leastExponent, OK
	case KdNormal:
		// The bits tell the exponent 1 for the least normal numbers, whose last bit is that of the subnormal ones.
		exponent := size>>fractionSize - 1 + leastExponent
		return isNegative(a), size&(hiddenBit-1) | hiddenBit, exponent, OK
	}
	return false, 0, 0, ErrRange
}

// joinParts returns the number with parts that an exactSum has room for, rounded once.
func joinParts(negative bool, fraction, exponent int64) float32 {
	var sum exactSum
	sum.addParts(false, fraction, exponent)
	return withSign(negative, sum.rounded())
}

// JoinReal returns the number with the given parts.
func JoinReal(negative bool, fraction, exponent int64) (float32, int64) {
	if fraction < 0 || fraction > maxFraction || exponent < -greatestScale || exponent > greatestScale {
		return 0, ErrRange
	}
	return joinParts(negative, fraction, exponent), OK
}

// placeOf returns the place in the order of a number that is not NaN.
func placeOf(a float32) int64 {
	size := int64(math.Float32bits(a) & sizeMask)
	if isNegative(a) {
		return -1 - size
	}
	return size
}

// atPlace returns the number with a place in the order.
func atPlace(key int64) float32 {
	if key < 0 {
		return math.Float32frombits(uint32(-1-key) | signBit)
	}
	return math.Float32frombits(uint32(key))
}

// OrderKey returns the place of a number in the order.
func OrderKey(a float32) (int64, int64) {
	if kindOf(a).isNaN() {
		return 0, ErrRange
	}
	return placeOf(a), OK
}

// FromOrderKey returns the number with a place.
func FromOrderKey(key int64) (float32, int64) {
	if key < -1-infiniteBits || key > infiniteBits {
		return 0, ErrRange
	}
	return atPlace(key), OK
}

// NextAbove returns the next greater number.
func NextAbove(a float32) float32 {
	if kindOf(a).isNaN() || placeOf(a) == infiniteBits {
		return a
	}
	if a == 0 {
		// 0 has the place above -0, but is not greater.
		return atPlace(1)
	}
	return atPlace(placeOf(a) + 1)
}

// NextBelow returns the next lesser number.
func NextBelow(a float32) float32 { return opposite(NextAbove(opposite(a))) }

// UnitOf returns the unit of the last place.
func UnitOf(a float32) (float32, int64) {
	_, _, exponent, code := SplitReal(a)
	if code != OK {
		return 0, code
	}
	return joinParts(false, 1, exponent), OK
}

// ScaleReal returns a number times a power of 2.
func ScaleReal(a float32, k int64) (float32, int64) {
	if k < -greatestScale || k > greatestScale {
		return 0, ErrRange
	}
	negative, fraction, exponent, code := SplitReal(a)
	if code != OK {
		return a, OK
	}
	return joinParts(negative, fraction, exponent+k), OK
}

// FlushReal returns 0 for a subnormal number.
func FlushReal(a float32) float32 {
	if kindOf(a) == KdSubnormal {
		return withSign(isNegative(a), 0)
	}
	return a
}

// RoundDown returns the greatest narrow number that is at most x.
func RoundDown(x float64) float32 {
	nearest := float32(x)
	if float64(nearest) > x {
		return NextBelow(nearest)
	}
	return nearest
}

// RoundUp returns the least narrow number that is at least x.
func RoundUp(x float64) float32 {
	nearest := float32(x)
	if float64(nearest) < x {
		return NextAbove(nearest)
	}
	return nearest
}

// RootOf returns the square root.
func RootOf(a float32) float32 {
	// A wide root has more than twice the bits of a narrow one, so that rounding it again changes nothing.
	return float32(math.Sqrt(float64(a)))
}

// SumOf returns a sum from left to right.
func SumOf(list []float32) (float32, int64) {
	if len(list) > MaxList {
		return 0, ErrLimit
	}
	if len(list) == 0 {
		return 0, OK
	}
	// Beginning with 0 would turn a sum of -0 into 0.
	sum := list[0]
	for _, a := range list[1:] {
		sum += a
	}
	return sum, OK
}

// pairCode returns the error of two lists that belong together.
func pairCode(x, y []float32) int64 {
	if len(x) > MaxList || len(y) > MaxList {
		return ErrLimit
	}
	if len(x) != len(y) {
		return ErrRange
	}
	return OK
}

// DotOf returns a sum of rounded products.
func DotOf(x, y []float32) (float32, int64) {
	if code := pairCode(x, y); code != OK {
		return 0, code
	}
	products := make([]float32, len(x))
	for i, a := range x {
		// The conversion keeps the product from being fused with the sum.
		products[i] = float32(a * y[i])
	}
	return SumOf(products)
}

// addParts adds a term that is told by its parts.
func (s *exactSum) addParts(negative bool, fraction, exponent int64) {
	place := uint64(exponent + onePlace)
	index, shift := place/limbSize, place%limbSize
	var term limbs
	term[index] = uint64(fraction) << shift
	term[index+1] = uint64(fraction) >> (limbSize - shift)
	step := bits.Add64
	if negative {
		step = bits.Sub64
	}
	carry := uint64(0)
	for i := range s.finite {
		s.finite[i], carry = step(s.finite[i], term[i], carry)
	}
}

// addProduct adds the exact product of two numbers.
func (s *exactSum) addProduct(a, b float32) {
	negativeA, fractionA, exponentA, codeA := SplitReal(a)
	negativeB, fractionB, exponentB, codeB := SplitReal(b)
	if codeA != OK || codeB != OK {
		s.addOdd(a * b)
		return
	}
	s.addParts(negativeA != negativeB, fractionA*fractionB, exponentA+exponentB)
}

// addOdd adds a term that is not finite.
func (s *exactSum) addOdd(term float32) {
	switch {
	case kindOf(term).isNaN():
		s.odd.nan = true
	case isNegative(term):
		s.odd.below = true
	default:
		s.odd.above = true
	}
}

// rounded returns the number that is nearest to the sum.
func (s *exactSum) rounded() float32 {
	switch s.odd {
	case oddTerms{}:
		return s.finite.rounded()
	case oddTerms{above: true}:
		return math.Float32frombits(infiniteBits)
	case oddTerms{below: true}:
		return math.Float32frombits(infiniteBits | signBit)
	}
	return math.Float32frombits(nanBits)
}

// sign returns the sign of the sum of the finite terms.
func (s *exactSum) sign() int64 {
	if s.finite == (limbs{}) {
		return 0
	}
	if s.finite.isNegative() {
		return -1
	}
	return 1
}

func (l limbs) isNegative() bool { return l[limbCount-1]>>(limbSize-1) != 0 }

func (l limbs) negated() limbs {
	borrow := uint64(0)
	for i := range l {
		l[i], borrow = bits.Sub64(0, l[i], borrow)
	}
	return l
}

// topPlace returns the place of the highest bit that is set, and -1 for 0.
func (l limbs) topPlace() int {
	for i := limbCount - 1; i >= 0; i-- {
		if l[i] != 0 {
			return i*limbSize + bits.Len64(l[i]) - 1
		}
	}
	return -1
}

// below returns what the bits below a place tell.
func (l limbs) below(place int) limbs {
	var rest limbs
	index, shift := place/limbSize, place%limbSize
	copy(rest[:index], l[:index])
	rest[index] = l[index] & (1<<shift - 1)
	return rest
}

// rounded returns the number that is nearest to the one that the limbs tell.
func (l limbs) rounded() float32 {
	if l.isNegative() {
		return opposite(l.negated().rounded())
	}
	// The last bit that is kept; subnormal numbers keep fewer bits, but none below leastPlace.
	last := max(l.topPlace()-fractionSize, leastPlace)
	half := last - 1
	index, shift := half/limbSize, half%limbSize
	kept := l[index]>>shift | l[index+1]<<(limbSize-shift)
	isHalf := kept&1 != 0
	kept >>= 1
	isOdd := kept&1 != 0
	if isHalf && (isOdd || l.below(half) != limbs{}) {
		kept++
	}
	// The hidden bit, if there is one, or a carry, counts the exponent up by itself.
	size := kept + uint64(last-leastPlace)<<fractionSize
	return math.Float32frombits(uint32(min(size, infiniteBits)))
}

// dotSum returns the exact sum of the exact products of two lists of one length.
func dotSum(x, y []float32) exactSum {
	var sum exactSum
	for i, a := range x {
		sum.addProduct(a, y[i])
	}
	return sum
}

// ExactSum returns a sum that is rounded once.
func ExactSum(list []float32) (float32, int64) {
	if len(list) > MaxList {
		return 0, ErrLimit
	}
	var sum exactSum
	for _, a := range list {
		sum.addProduct(a, 1)
	}
	return sum.rounded(), OK
}

// ExactDot returns a sum of exact products that is rounded once.
func ExactDot(x, y []float32) (float32, int64) {
	if code := pairCode(x, y); code != OK {
		return 0, code
	}
	sum := dotSum(x, y)
	return sum.rounded(), OK
}

// areAll reports whether the kinds of all numbers of a list are such.
func areAll(list []float32, isSuch func(kind) bool) bool {
	for _, a := range list {
		if !isSuch(kindOf(a)) {
			return false
		}
	}
	return true
}

// SignOfDot returns the sign of an exact sum of products.
func SignOfDot(x, y []float32) (int64, int64) {
	if code := pairCode(x, y); code != OK {
		return 0, code
	}
	if !areAll(x, kind.isFinite) || !areAll(y, kind.isFinite) {
		return 0, ErrRange
	}
	sum := dotSum(x, y)
	return sum.sign(), OK
}

// sortingPlace returns the place of a number in the order, one behind it for NaN.
func sortingPlace(a float32) int64 {
	if kindOf(a).isNaN() {
		return infiniteBits + 1
	}
	return placeOf(a)
}

func compareReals(a, b float32) int { return cmp.Compare(sortingPlace(a), sortingPlace(b)) }

// SortReals returns numbers in the order of their places.
func SortReals(list []float32) ([]float32, int64) {
	if len(list) > MaxList {
		return nil, ErrLimit
	}
	sorted := append([]float32{}, list...)
	slices.SortFunc(sorted, compareReals)
	// Room behind the list would depend on how append grows it.
	return sorted[:len(sorted):len(sorted)], OK
}

// RealText returns the text of the bits of a number.
func RealText(a float32) string {
	if kindOf(a).isNaN() {
		return nanText
	}
	digits := strconv.FormatUint(uint64(math.Float32bits(a)), 16)
	return strings.Repeat("0", realDigits-len(digits)) + digits
}

// ReadReal returns the number with the given text.
func ReadReal(text string) (float32, int64) {
	if text == nanText {
		return math.Float32frombits(nanBits), OK
	}
	if len(text) != realDigits {
		return 0, ErrSyntax
	}
	word, err := strconv.ParseUint(text, 16, 32)
	a := math.Float32frombits(uint32(word))
	// Only the text that RealText gives counts: no capital letters, and no bits of a NaN.
	if err != nil || RealText(a) != text {
		return 0, ErrSyntax
	}
	return a, OK
}
