package impl

import (
	"math"
	"strconv"
	"strings"
)

// Limits of chapter 1.
const (
	MaxNumbers = 256
	MaxValue   = 1000000000000000
	MaxItems   = 64
	CheckSize  = 65003
)

// Vector has three numbers.
type Vector struct {
	X float32
	Y float32
	Z float32
}

const (
	nanBits  = 0x7fc00000 // the one pattern that stands for all not-a-numbers
	mostBits = 0xffffffff
	lastTiny = 0x007fffff // the bits of the greatest subnormal number
	signBit  = 0x80000000
	noItems  = "none"
)

// SameNumber reports whether two numbers are the same.
func SameNumber(a, b float32) bool { return BitsOf(a) == BitsOf(b) }

// IsFinite reports whether x is neither an infinity nor a not-a-number.
func IsFinite(x float32) bool { return !isNaN(x) && !math.IsInf(float64(x), 0) }

func isNaN(x float32) bool { return math.IsNaN(float64(x)) }

func notANumber() float32 { return NarrowNumber(math.NaN()) }

func infinity(sign int) float32 { return NarrowNumber(math.Inf(sign)) }

// BitsOf returns the bits of a number, where all not-a-numbers have the same.
func BitsOf(x float32) int64 {
	if isNaN(x) {
		return nanBits
	}
	return int64(math.Float32bits(x))
}

// FromBits returns the number with the given bits.
func FromBits(n int64) (float32, bool) {
	if n < 0 || n > mostBits {
		return 0, false
	}
	return math.Float32frombits(uint32(n)), true
}

// NarrowNumber returns the nearest 32-bit number, with ties to even.
func NarrowNumber(x float64) float32 { return float32(x) }

// NextUp returns the next greater number.
func NextUp(x float32) float32 {
	switch {
	case isNaN(x) || math.IsInf(float64(x), 1):
		return x
	case x == 0:
		return math.SmallestNonzeroFloat32
	case x < 0:
		// The bits below the sign grow with the distance from zero.
		return math.Float32frombits(math.Float32bits(x) - 1)
	}
	return math.Float32frombits(math.Float32bits(x) + 1)
}

// NextDown returns the next lesser number.
func NextDown(x float32) float32 { return -NextUp(-x) }

// SumNumbers returns the sum from left to right.
func SumNumbers(list []float32) (float32, bool) {
	if len(list) > MaxNumbers {
		return 0, false
	}
	var sum float32
	for _, x := range list {
		sum += x
	}
	return sum, true
}

// SumPairs returns the sum of both halves, each summed in the same way.
func SumPairs(list []float32) (float32, bool) {
	if len(list) > MaxNumbers {
		return 0, false
	}
	return sumHalves(list), true
}

func sumHalves(list []float32) float32 {
	switch len(list) {
	case 0:
		return 0
	case 1:
		return list[0]
	}
	middle := (len(list) + 1) / 2
	return sumHalves(list[:middle]) + sumHalves(list[middle:])
}

// DotNumbers returns the sum of products.
func DotNumbers(a, b []float32) (float32, bool) {
	if len(a) != len(b) || len(a) > MaxNumbers {
		return 0, false
	}
	return dotOf[float32](a, b), true
}

// DotWide returns the sum of products in 64 bits, narrowed at the end.
func DotWide(a, b []float32) (float32, bool) {
	if len(a) != len(b) || len(a) > MaxNumbers {
		return 0, false
	}
	return NarrowNumber(dotOf[float64](a, b)), true
}

// floating is the width in which something is computed.
type floating interface{ float32 | float64 }

// dotOf takes lists of the same length.
func dotOf[T floating](a, b []float32) T {
	var sum T
	for i, x := range a {
		sum += product(T(x), T(b[i]))
	}
	return sum
}

// product returns a product that is rounded on its own: the conversion forbids
// compilers to fuse it with a sum in which it is used.
func product[T floating](a, b T) T { return T(a * b) }

// FlushNumber returns x, or a zero with its sign if it is subnormal.
func FlushNumber(x float32) float32 {
	if IsSubnormal(x) {
		return NarrowNumber(math.Copysign(0, float64(x)))
	}
	return x
}

// IsSubnormal reports whether x is subnormal.
func IsSubnormal(x float32) bool {
	size := BitsOf(x) &^ signBit
	return size > 0 && size <= lastTiny
}

// ExpNumber returns the exponential function.
func ExpNumber(x float32) float32 {
	if x > 200 {
		return infinity(1)
	}
	if x < -200 {
		return 0
	}
	t := float64(x) / 256
	p := 1.0
	for k := 12; k >= 1; k-- {
		p = 1 + product(t, p)/float64(k)
	}
	for range 8 {
		p = product(p, p)
	}
	return NarrowNumber(p)
}

// LogNumber returns the logarithm.
func LogNumber(x float32) float32 {
	switch {
	case isNaN(x) || x < 0:
		return notANumber()
	case x == 0:
		return infinity(-1)
	case math.IsInf(float64(x), 1):
		return x
	}
	const logOfTwo = 0.6931471805599453
	near, halvings := nearOne(float64(x))
	s := (near - 1) / (near + 1)
	u := product(s, s)
	q := 0.0
	for k := 25; k >= 1; k -= 2 {
		q = 1/float64(k) + product(u, q)
	}
	return NarrowNumber(product(2, product(s, q)) + product(halvings, logOfTwo))
}

// nearOne halves or doubles a finite positive number until it is at least 0.75
// and less than 1.5, and tells how often it was halved, less how often doubled.
func nearOne(x float64) (float64, float64) {
	halvings := 0.0
	for x >= 1.5 {
		x /= 2
		halvings++
	}
	for x < 0.75 {
		x *= 2
		halvings--
	}
	return x, halvings
}

// RootNumber returns the square root.
func RootNumber(x float32) float32 { return NarrowNumber(math.Sqrt(float64(x))) }

// SineTurns returns the sine of some turns.
func SineTurns(x float32) float32 {
	if !IsFinite(x) {
		return notANumber()
	}
	if math.Abs(float64(x)) >= 1<<52 {
		return 0
	}
	const turn = 6.283185307179586
	f, turned := firstQuarter(shareOfTurn(float64(x)))
	z := product(f, turn)
	u := product(z, z)
	p := 1.0
	for k := 8; k >= 1; k-- {
		p = 1 - product(u, p)/float64(2*k*(2*k+1))
	}
	sine := product(z, p)
	if turned {
		sine = -sine
	}
	return NarrowNumber(sine)
}

// shareOfTurn returns what is left of turns without whole ones. The way over an
// integer makes its zero +0, so -0 stays -0.
func shareOfTurn(x float64) float64 {
	f := x - float64(int64(x))
	if f < 0 {
		f++
	}
	return f
}

// firstQuarter returns the share of the first quarter of a turn with the same
// sine, and whether the sign of this sine must be turned.
func firstQuarter(f float64) (float64, bool) {
	turned := f >= 0.5
	if turned {
		f -= 0.5
	}
	if f > 0.25 {
		f = 0.5 - f
	}
	return f, turned
}

// AngleTurns returns the angle of a point, in turns.
func AngleTurns(y, x float32) float32 {
	if !IsFinite(x) || !IsFinite(y) {
		return notANumber()
	}
	if x == 0 && y == 0 {
		return 0
	}
	a, b := math.Abs(float64(y)), math.Abs(float64(x))
	steep := a > b
	if steep {
		a, b = b, a
	}
	angle := flatAngle(a / b)
	if steep {
		angle = 0.25 - angle
	}
	if x < 0 {
		angle = 0.5 - angle
	}
	if y < 0 {
		angle = -angle
	}
	return NarrowNumber(angle)
}

// flatAngle returns the angle, in turns, whose tangent is t, from 0 to 1.
func flatAngle(t float64) float64 {
	const turn = 6.283185307179586
	for range 3 {
		t /= 1 + math.Sqrt(1+product(t, t))
	}
	u := product(t, t)
	p := 0.0
	for k := 15; k >= 1; k -= 2 {
		p = 1/float64(k) - product(u, p)
	}
	return product(8, product(t, p)) / turn
}

// AddVectors returns the sums of numbers.
func AddVectors(a, b Vector) Vector { return Vector{a.X + b.X, a.Y + b.Y, a.Z + b.Z} }

// LessVectors returns the differences of numbers.
func LessVectors(a, b Vector) Vector { return Vector{a.X - b.X, a.Y - b.Y, a.Z - b.Z} }

// ScaleVector returns the products with a number.
func ScaleVector(v Vector, by float32) Vector {
	return Vector{product(v.X, by), product(v.Y, by), product(v.Z, by)}
}

// InnerOf returns the sum of products.
func InnerOf(a, b Vector) float32 {
	return product(a.X, b.X) + product(a.Y, b.Y) + product(a.Z, b.Z)
}

// CrossOf returns the vector across two others.
func CrossOf(a, b Vector) Vector {
	return Vector{
		X: product(a.Y, b.Z) - product(a.Z, b.Y),
		Y: product(a.Z, b.X) - product(a.X, b.Z),
		Z: product(a.X, b.Y) - product(a.Y, b.X),
	}
}

// LongOf returns the length of a vector.
func LongOf(v Vector) float32 { return RootNumber(InnerOf(v, v)) }

// BetweenVectors returns a vector between two others.
func BetweenVectors(a, b Vector, share float32) Vector {
	return AddVectors(a, ScaleVector(LessVectors(b, a), share))
}

// SameVector reports whether two vectors are the same.
func SameVector(a, b Vector) bool {
	return SameNumber(a.X, b.X) && SameNumber(a.Y, b.Y) && SameNumber(a.Z, b.Z)
}

// VectorText returns the text of a vector.
func VectorText(v Vector) string { return itemsText([]float32{v.X, v.Y, v.Z}, numberText) }

// ReadVector returns the vector with the given text.
func ReadVector(s string) (Vector, bool) {
	list, ok := readItems(s, 3, readNumber)
	if !ok || len(list) != 3 {
		return Vector{}, false
	}
	return Vector{list[0], list[1], list[2]}, true
}

// NumbersText returns the text of numbers.
func NumbersText(list []float32) (string, bool) {
	if len(list) > MaxNumbers {
		return "", false
	}
	return itemsText(list, numberText), true
}

// ReadNumbers returns the numbers with the given text.
func ReadNumbers(s string) ([]float32, bool) { return readItems(s, MaxNumbers, readNumber) }

// itemsText joins the texts of all items.
func itemsText[T any](list []T, textOf func(T) string) string {
	if len(list) == 0 {
		return noItems
	}
	words := make([]string, len(list))
	for i, item := range list {
		words[i] = textOf(item)
	}
	return strings.Join(words, ",")
}

// readItems undoes itemsText for a list of at most so many items.
func readItems[T any](s string, most int, read func(string) (T, bool)) ([]T, bool) {
	if s == noItems {
		return nil, true
	}
	// One word more than allowed is enough to tell that a text is too long.
	words := strings.SplitN(s, ",", most+1)
	if len(words) > most {
		return nil, false
	}
	list := make([]T, len(words))
	for i, word := range words {
		item, ok := read(word)
		if !ok {
			return nil, false
		}
		list[i] = item
	}
	return list, true
}

func numberText(x float32) string {
	digits := strconv.FormatInt(BitsOf(x), 16)
	return strings.Repeat("0", 8-len(digits)) + digits
}

// readNumber takes the 8 digits of a number. A text with other bits of a
// not-a-number than those that BitsOf tells is the text of no number.
func readNumber(s string) (float32, bool) {
	if len(s) != 8 {
		return 0, false
	}
	var n int64
	for _, r := range s {
		digit, ok := hexDigit(r)
		if !ok {
			return 0, false
		}
		n = 16*n + digit
	}
	x, ok := FromBits(n)
	if !ok || BitsOf(x) != n {
		return 0, false
	}
	return x, true
}

func hexDigit(r rune) (int64, bool) {
	switch {
	case '0' <= r && r <= '9':
		return int64(r - '0'), true
	case 'a' <= r && r <= 'f':
		return int64(r-'a') + 10, true
	}
	return 0, false
}

// IsName reports whether s is a name.
func IsName(s string) bool {
	if len(s) < 1 || len(s) > 8 {
		return false
	}
	for _, r := range s {
		if r < 'a' || r > 'z' {
			return false
		}
	}
	return true
}

// Decimal returns n in decimal.
func Decimal(n int64) string { return strconv.FormatInt(n, 10) }

// ReadDecimal returns the number with the given decimal text.
func ReadDecimal(s string) (int64, bool) {
	n, err := strconv.ParseInt(s, 10, 64)
	if err != nil || !isListed(n) || Decimal(n) != s {
		return 0, false
	}
	return n, true
}

func isListed(n int64) bool { return n >= -MaxValue && n <= MaxValue }

// ListText returns the text of a list.
func ListText(list []int64) (string, bool) {
	if len(list) > MaxItems {
		return "", false
	}
	for _, n := range list {
		if !isListed(n) {
			return "", false
		}
	}
	return itemsText(list, Decimal), true
}

// ReadList returns the list with the given text.
func ReadList(s string) ([]int64, bool) { return readItems(s, MaxItems, ReadDecimal) }

// CheckOf returns the check number of a text.
func CheckOf(start int64, s string) (int64, bool) {
	if start < 0 || start >= CheckSize {
		return 0, false
	}
	check := start
	for i := range len(s) {
		check = (701*check + int64(s[i]) + 47) % CheckSize
	}
	return check, true
}
