package tests

import (
	"math"
	"testing"

	"loop.example/g01222/impl"
)

const (
	inf    = 0x7f800000
	negInf = 0xff800000
	nan    = 0x7fc00000
	minusZ = 0x80000000
)

// num makes a number of its bits without the program.
func num(bits uint32) float32 { return math.Float32frombits(bits) }

// bitsOf tells the bits of a number without the program, the same for all not-a-numbers.
func bitsOf(x float32) uint32 {
	if x != x {
		return nan
	}
	return math.Float32bits(x)
}

func same(a, b float32) bool { return bitsOf(a) == bitsOf(b) }

func nums(bits ...uint32) []float32 {
	list := make([]float32, len(bits))
	for i, n := range bits {
		list[i] = num(n)
	}
	return list
}

func sameLists(a, b []float32) bool {
	if len(a) != len(b) {
		return false
	}
	for i := range a {
		if !same(a[i], b[i]) {
			return false
		}
	}
	return true
}

// repeat returns a list of n times x.
func repeat[T any](x T, n int) []T {
	list := make([]T, n)
	for i := range list {
		list[i] = x
	}
	return list
}

func wantNumber(t *testing.T, what string, got, want float32) {
	t.Helper()
	if !same(got, want) {
		t.Errorf("%s: got %v (%08x), want %v (%08x)", what, got, bitsOf(got), want, bitsOf(want))
	}
}

func wantSum(t *testing.T, what string, got float32, ok bool, want float32) {
	t.Helper()
	if !ok {
		t.Errorf("%s failed", what)
	}
	wantNumber(t, what, got, want)
}

// wantNoSum also asks for a zero beside the failure.
func wantNoSum(t *testing.T, what string, got float32, ok bool) {
	t.Helper()
	if ok || bitsOf(got) != 0 {
		t.Errorf("%s: got %v, %v instead of a failure", what, got, ok)
	}
}

func wantVector(t *testing.T, what string, got, want impl.Vector) {
	t.Helper()
	if !same(got.X, want.X) || !same(got.Y, want.Y) || !same(got.Z, want.Z) {
		t.Errorf("%s: got %v, want %v", what, got, want)
	}
}

// oddNumbers are numbers of all kinds.
func oddNumbers() []float32 {
	return nums(0, minusZ, 1, 0x80000001, 2, 0x007fffff, 0x807fffff, 0x00800000, 0x80800000, 0x00800001,
		0x3effffff, 0x3f000000, 0x3f800000, 0xbf800000, 0x3f800001, 0x40490fdb, 0xc2f6e979, 0x43480000,
		0xc3480000, 0x4b7fffff, 0x59800000, 0x5f000000, 0xdf000000, 0x7f7fffff, 0xff7fffff,
		inf, negInf, nan, 0xffc00000, 0x7f800001, 0xffffffff)
}
