package tests

import (
	"math"
	"testing"

	"loop.example/g01222/impl"
)

func TestSameNumberTellsSignsOfZerosAndOneNaN(t *testing.T) {
	for i, a := range oddNumbers() {
		for j, b := range oddNumbers() {
			want := i == j || a != a && b != b
			if got := impl.SameNumber(a, b); got != want {
				t.Errorf("%08x and %08x: %v", math.Float32bits(a), math.Float32bits(b), got)
			}
		}
	}
}

func TestIsFinite(t *testing.T) {
	for _, x := range nums(0, minusZ, 1, 0x807fffff, 0x3f800000, 0x7f7fffff, 0xff7fffff) {
		if !impl.IsFinite(x) {
			t.Errorf("%v is not finite", x)
		}
	}
	for _, x := range nums(inf, negInf, nan, 0xffc00000, 0x7f800001, 0xffffffff) {
		if impl.IsFinite(x) {
			t.Errorf("%08x is finite", math.Float32bits(x))
		}
	}
}

func TestBitsOf(t *testing.T) {
	cases := []struct {
		x    float32
		want int64
	}{
		{0, 0}, {num(minusZ), 2147483648}, {1, 1065353216}, {-2, 0xc0000000}, {math.MaxFloat32, 0x7f7fffff},
		{math.SmallestNonzeroFloat32, 1}, {-math.SmallestNonzeroFloat32, 0x80000001},
		{num(inf), 2139095040}, {num(negInf), 4286578688},
		{num(nan), 2143289344}, {num(0xffc00000), 2143289344}, {num(0x7f800001), 2143289344},
		{num(0x7fffffff), 2143289344}, {num(0xffffffff), 2143289344}, {num(0xff800001), 2143289344},
	}
	for _, c := range cases {
		if got := impl.BitsOf(c.x); got != c.want {
			t.Errorf("bits of %v: got %d, want %d", c.x, got, c.want)
		}
	}
}

func TestFromBits(t *testing.T) {
	for _, n := range []int64{0, 1, 0x007fffff, 0x00800000, 0x3f800000, 0x7f7fffff, inf, 0x80000000, 0x80000001, negInf} {
		x, ok := impl.FromBits(n)
		if !ok || int64(math.Float32bits(x)) != n {
			t.Errorf("%d: got %v, %v", n, x, ok)
		}
	}
	for _, n := range []int64{nan, 0x7f800001, 0x7fffffff, 0xff800001, 0xffc00000, 4294967295} {
		if x, ok := impl.FromBits(n); !ok || x == x {
			t.Errorf("%d: got %v, %v", n, x, ok)
		}
	}
	for _, n := range []int64{-1, 4294967296, math.MinInt64, math.MaxInt64, -2147483648, 4294967296 + 0x3f800000} {
		x, ok := impl.FromBits(n)
		wantNoSum(t, "bits out of range", x, ok)
	}
}

func TestNarrowNumber(t *testing.T) {
	cases := []struct {
		x    float64
		want uint32
	}{
		{0, 0}, {math.Copysign(0, -1), minusZ}, {1, 0x3f800000}, {-2, 0xc0000000}, {0.1, 0x3dcccccd},
		// Ties go to even, and the least bit beyond a tie decides.
		{1 + 0x1p-24, 0x3f800000}, {1 + 0x3p-24, 0x3f800002}, {1 + 0x1p-24 + 0x1p-52, 0x3f800001},
		{1 + 0x1p-24 - 0x1p-52, 0x3f800000}, {1 + 0x3p-24 - 0x1p-52, 0x3f800001}, {-1 - 0x1p-24, 0xbf800000},
		// The greatest numbers.
		{0x1.fffffep127, 0x7f7fffff}, {0x1.fffffefffffffp127, 0x7f7fffff}, {0x1.ffffffp127, inf},
		{-0x1.fffffefffffffp127, 0xff7fffff}, {-0x1.ffffffp127, negInf}, {1e300, inf}, {-1e300, negInf},
		// Subnormal numbers.
		{0x1p-149, 1}, {0x1p-150, 0}, {-0x1p-150, minusZ}, {0x1.0000000000001p-150, 1}, {0x3p-150, 2}, {0x5p-150, 2},
		{0x1p-126, 0x00800000}, {0x1p-126 - 0x1p-150, 0x00800000}, {0x1p-126 - 0x1p-149, 0x007fffff},
		{5e-324, 0}, {-5e-324, minusZ},
		{math.Inf(1), inf}, {math.Inf(-1), negInf}, {math.NaN(), nan},
	}
	for _, c := range cases {
		wantNumber(t, "narrowed", impl.NarrowNumber(c.x), num(c.want))
	}
}

func TestNextUpAndNextDown(t *testing.T) {
	cases := []struct{ x, up, down uint32 }{
		{0, 1, 0x80000001},
		{minusZ, 1, 0x80000001},
		{1, 2, 0},
		{0x80000001, minusZ, 0x80000002},
		{0x007fffff, 0x00800000, 0x007ffffe},
		{0x00800000, 0x00800001, 0x007fffff},
		{0x80800000, 0x807fffff, 0x80800001},
		{0x3f800000, 0x3f800001, 0x3f7fffff},
		{0xbf800000, 0xbf7fffff, 0xbf800001},
		{0x7f7fffff, inf, 0x7f7ffffe},
		{0xff7fffff, 0xff7ffffe, negInf},
		{inf, inf, 0x7f7fffff},
		{negInf, 0xff7fffff, negInf},
		{nan, nan, nan},
		{0xffffffff, nan, nan},
		{0x7f800001, nan, nan},
	}
	for _, c := range cases {
		wantNumber(t, "next up", impl.NextUp(num(c.x)), num(c.up))
		wantNumber(t, "next down", impl.NextDown(num(c.x)), num(c.down))
	}
}

func TestNextUpLeavesNoNumberBetween(t *testing.T) {
	for n := uint32(0); n < 0x7f000000; n += 65521 {
		for _, x := range nums(n, n|minusZ) {
			up := impl.NextUp(x)
			if !(up > x) {
				t.Fatalf("next up of %v is %v", x, up)
			}
			middle := float32((float64(x) + float64(up)) / 2)
			if middle != x && middle != up {
				t.Fatalf("%v is between %v and %v", middle, x, up)
			}
		}
	}
}

func TestSubnormalNumbersAreFlushed(t *testing.T) {
	cases := []struct {
		x, flushed uint32
		tiny       bool
	}{
		{0, 0, false}, {minusZ, minusZ, false},
		{1, 0, true}, {0x80000001, minusZ, true}, {0x00400000, 0, true},
		{0x007fffff, 0, true}, {0x807fffff, minusZ, true},
		{0x00800000, 0x00800000, false}, {0x80800000, 0x80800000, false},
		{0x3f800000, 0x3f800000, false}, {0xff7fffff, 0xff7fffff, false},
		{inf, inf, false}, {negInf, negInf, false}, {nan, nan, false}, {0x7f800001, nan, false}, {0xffffffff, nan, false},
	}
	for _, c := range cases {
		wantNumber(t, "flushed", impl.FlushNumber(num(c.x)), num(c.flushed))
		if got := impl.IsSubnormal(num(c.x)); got != c.tiny {
			t.Errorf("%08x is subnormal: %v", c.x, got)
		}
	}
}
