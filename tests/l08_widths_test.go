package tests

import (
	"math"
	"testing"

	"loop.example/g01222/impl"
)

// TestCoshAndSinhToTheLastBit has values that were computed outside of the program. For the last arguments, other bits
// would come of numbers that are not narrowed before they are added.
func TestCoshAndSinhToTheLastBit(t *testing.T) {
	for _, c := range []struct{ x, cosh, sinh uint32 }{
		{0x00000000, 0x3f800000, 0x00000000}, {0x80000000, 0x3f800000, 0x00000000}, {0x00000001, 0x3f800000, 0x00000000},
		{0x80000001, 0x3f800000, 0x00000000}, {0x007fffff, 0x3f800000, 0x00000000}, {0x00800000, 0x3f800000, 0x00000000},
		{0x3f800000, 0x3fc583aa, 0x3f966cfe}, {0xbf800000, 0x3fc583aa, 0xbf966cfe}, {0x3f000000, 0x3f90560c, 0x3f056680},
		{0x38d1b717, 0x3f800000, 0x38d1c000}, {0xb8d1b717, 0x3f800000, 0xb8d1c000}, {0x322bcc77, 0x3f800000, 0x00000000},
		{0x33800000, 0x3f800000, 0x33c00000}, {0x34000000, 0x3f800000, 0x34000000}, {0x3e99999a, 0x3f85cda7, 0x3e9bea17},
		{0x40490fdb, 0x413978a6, 0x4138c7a4}, {0x41200000, 0x462c14ee, 0x462c14ee}, {0xc1200000, 0x462c14ee, 0xc62c14ee},
		{0x42b16666, 0x7efa37fc, 0x7efa37fc}, {0xc2b16666, 0x7efa37fc, 0xfefa37fc}, {0x42b17217, 0x7effff84, 0x7effff84},
		{0x42b17218, inf, inf}, {0x42b20000, inf, inf}, {0xc2b20000, inf, negInf}, {0x43480000, inf, inf}, {0x43480001, inf, inf},
		{0xc3480000, inf, negInf}, {0xc3480001, inf, negInf}, {0x7f7fffff, inf, inf}, {0xff7fffff, inf, negInf},
		{inf, inf, inf}, {negInf, inf, negInf}, {nan, nan, nan}, {0xffffffff, nan, nan}, {0x7f800001, nan, nan},
		{0x3f411b3c, 0x3fa62d09, 0x3f53f28e}, {0xbe276dfa, 0x3f81b6fc, 0xbe282d34}, {0x3f428822, 0x3fa6c4c0, 0x3f55cd21},
		{0x3f388385, 0x3fa2b63b, 0x3f48e8cd},
	} {
		wantNumber(t, told("cosh", num(c.x)), impl.CoshNumber(num(c.x)), num(c.cosh))
		wantNumber(t, told("sinh", num(c.x)), impl.SinhNumber(num(c.x)), num(c.sinh))
	}
}

func TestCoshAndSinhAreThoseOfTheText(t *testing.T) {
	d := dice(33)
	list := oddNumbers()
	for i := range 2000 {
		list = append(list, d.number()*float32(1+i%30))
	}
	for _, x := range list {
		cosh, sinh := impl.CoshNumber(x), impl.SinhNumber(x)
		wantNumber(t, told("cosh", x), cosh, float32(slowCosh(float64(x))))
		wantNumber(t, told("sinh", x), sinh, float32(slowSinh(float64(x))))
		wantNumber(t, told("cosh of the opposite of", x), impl.CoshNumber(-x), cosh)
		if sinh != 0 {
			wantNumber(t, told("sinh of the opposite of", x), impl.SinhNumber(-x), -sinh)
		}
		exact := math.Cosh(float64(x))
		if exact < 1e38 && (math.Abs(float64(cosh)-exact) > 3e-7*exact || math.Abs(float64(sinh)-math.Sinh(float64(x))) > 3e-7*exact) {
			t.Errorf("cosh and sinh of %v: %v and %v", x, cosh, sinh)
		}
	}
}

// TestWidthAt has values that were computed outside of the program. For the last ones, other bits would come of numbers
// that are not rounded on their own.
func TestWidthAt(t *testing.T) {
	for _, c := range []struct{ neck, z, width float32 }{
		{2, 0, 2}, {2, num(minusZ), 2}, {1, 1, num(0x3fc583aa)}, {1, -1, num(0x3fc583aa)}, {0.5, 1, num(0x3ff0c7d1)},
		{2.5, 1.75, num(0x4048d3b9)}, {0.1, 8.8, num(0x7cc6cef9)}, {0.1, 8.9, num(inf)}, {1, 88.72283, num(0x7effff84)},
		{1, 88.72284, num(inf)}, {3, 1e30, num(inf)}, {1e30, 1e30, num(0x719bcfb3)}, {2e38, 2e38, num(0x7f682d4d)},
		{3e38, 1e38, num(0x7f6e599d)}, {3e38, 3e38, num(inf)}, {math.MaxFloat32, 0, math.MaxFloat32},
		{num(1), num(1), num(2)}, {num(1), 0, num(1)}, {num(1), num(0x80000001), num(2)}, {num(3), num(2), num(4)},
		{num(0x007fffff), num(0x00800000), num(0x00c583aa)}, {num(1), 1, num(inf)},
		{1, num(inf), num(inf)}, {1, num(negInf), num(inf)}, {1, num(nan), num(nan)}, {1, num(0xffffffff), num(nan)},
		{num(0x3fe3f005), num(0xbffa223f), num(0x403dc2b7)}, {num(0x3eb55235), num(0x3eed2779), num(0x3f33e8ee)},
		{num(0x3f4e53b4), num(0xbe84a3de), num(0x3f5913e5)},
	} {
		width, ok := impl.WidthAt(c.neck, c.z)
		wantSum(t, told("width", c.neck, c.z), width, ok, c.width)
	}
}

func TestWidthAtIsThatOfTheText(t *testing.T) {
	d := dice(34)
	list := oddRings()
	for range 1000 {
		list = append(list, rings{d.number() + 3, d.number()})
	}
	for _, c := range list {
		expected, exists := slowWidth(float64(c.radius), float64(c.gap))
		width, ok := impl.WidthAt(c.radius, c.gap)
		wantSumIf(t, exists, told("width", c.radius, c.gap), width, ok, expected)
	}
}

func TestWidthAtNeedsANeck(t *testing.T) {
	for _, neck := range oddLengths() {
		for _, z := range append(oddNumbers(), 0.5, -3) {
			width, ok := impl.WidthAt(neck, z)
			wantNoSum(t, told("width", neck, z), width, ok)
		}
	}
}
