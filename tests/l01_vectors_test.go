package tests

import (
	"math"
	"testing"

	"loop.example/g01222/impl"
)

func vec(x, y, z float32) impl.Vector { return impl.Vector{X: x, Y: y, Z: z} }

func TestVectorsAreAddedByNumbers(t *testing.T) {
	great := float32(math.MaxFloat32)
	a, b := vec(1, num(minusZ), 16777216), vec(2, num(minusZ), 1)
	wantVector(t, "sum", impl.AddVectors(a, b), vec(3, num(minusZ), 16777216))
	wantVector(t, "difference", impl.LessVectors(a, b), vec(-1, 0, 16777215))
	wantVector(t, "zeros", impl.LessVectors(vec(num(minusZ), 0, 0), vec(0, 0, num(minusZ))), vec(num(minusZ), 0, 0))
	odd := impl.AddVectors(vec(num(inf), num(nan), great), vec(num(negInf), 1, great))
	wantVector(t, "odd sum", odd, vec(num(nan), num(nan), num(inf)))
	wantVector(t, "subnormal", impl.LessVectors(vec(num(0x00800000), 0, 0), vec(num(1), num(1), 0)),
		vec(num(0x007fffff), num(0x80000001), 0))
}

func TestScaleVector(t *testing.T) {
	wantVector(t, "scaled", impl.ScaleVector(vec(1, -2, 0.5), 4), vec(4, -8, 2))
	wantVector(t, "by -0", impl.ScaleVector(vec(1, -2, 0), num(minusZ)), vec(num(minusZ), 0, num(minusZ)))
	wantVector(t, "by 0", impl.ScaleVector(vec(num(inf), -1, num(nan)), 0), vec(num(nan), num(minusZ), num(nan)))
	wantVector(t, "tiny", impl.ScaleVector(vec(num(1), num(3), num(0x80000001)), 0.5), vec(0, num(2), num(minusZ)))
	wantVector(t, "by infinity", impl.ScaleVector(vec(1, -1, 0), num(inf)), vec(num(inf), num(negInf), num(nan)))
}

func TestInnerOfAddsFromTheLeft(t *testing.T) {
	const near, square = 1 + 0x1p-12, 1 + 0x1p-11
	one := vec(1, 1, 1)
	wantNumber(t, "inner", impl.InnerOf(vec(1, 2, 3), vec(4, -5, 6)), 12)
	wantNumber(t, "left first", impl.InnerOf(vec(1e8, -1e8, 1), one), 1)
	wantNumber(t, "right last", impl.InnerOf(vec(1, 1e8, -1e8), one), 0)
	wantNumber(t, "outer", impl.InnerOf(vec(1e8, 1, -1e8), one), 0)
	wantNumber(t, "rounded first", impl.InnerOf(vec(near, -square, 0), vec(near, 1, 1)), 0)
	wantNumber(t, "rounded second", impl.InnerOf(vec(-square, near, 0), vec(1, near, 1)), 0)
	wantNumber(t, "rounded third", impl.InnerOf(vec(-square, 0, near), vec(1, 1, near)), 0)
	wantNumber(t, "of -0", impl.InnerOf(vec(num(minusZ), num(minusZ), num(minusZ)), one), num(minusZ))
	wantNumber(t, "odd", impl.InnerOf(vec(num(inf), 1, 1), vec(0, 1, 1)), num(nan))
}

func TestCrossOf(t *testing.T) {
	const near, square = 1 + 0x1p-12, 1 + 0x1p-11
	wantVector(t, "cross", impl.CrossOf(vec(1, 2, 3), vec(5, 7, 11)), vec(1, 4, -3))
	wantVector(t, "turned", impl.CrossOf(vec(5, 7, 11), vec(1, 2, 3)), vec(-1, -4, 3))
	wantVector(t, "y and z", impl.CrossOf(vec(0, 1, 0), vec(0, 0, 1)), vec(1, 0, 0))
	wantVector(t, "z and x", impl.CrossOf(vec(0, 0, 1), vec(1, 0, 0)), vec(0, 1, 0))
	wantVector(t, "itself", impl.CrossOf(vec(1, 2, 3), vec(1, 2, 3)), vec(0, 0, 0))
	wantVector(t, "rounded", impl.CrossOf(vec(near, near, near), vec(near, near, near)), vec(0, 0, 0))
	wantVector(t, "rounded left", impl.CrossOf(vec(near, 1, 0), vec(square, near, 0)), vec(0, 0, 0))
	wantVector(t, "rounded right", impl.CrossOf(vec(square, near, 0), vec(near, 1, 0)), vec(0, 0, 0))
	wantVector(t, "odd", impl.CrossOf(vec(num(inf), 0, 0), vec(0, 1, 0)), vec(0, num(nan), num(inf)))
	wantVector(t, "signs", impl.CrossOf(vec(-1, 0, 0), vec(1, 0, 0)), vec(0, 0, num(minusZ)))
	wantVector(t, "-0", impl.CrossOf(vec(0, num(minusZ), 0), vec(0, 0, 1)), vec(num(minusZ), 0, 0))
}

func TestLongOf(t *testing.T) {
	wantNumber(t, "long", impl.LongOf(vec(2, -3, 6)), 7)
	wantNumber(t, "zero", impl.LongOf(vec(num(minusZ), num(minusZ), num(minusZ))), 0)
	wantNumber(t, "root of 2", impl.LongOf(vec(1, 1, 0)), num(0x3fb504f3))
	wantNumber(t, "too small", impl.LongOf(vec(1e-30, 0, 0)), 0)
	wantNumber(t, "too great", impl.LongOf(vec(1e30, 0, 0)), num(inf))
	wantNumber(t, "infinite", impl.LongOf(vec(0, num(negInf), 0)), num(inf))
	wantNumber(t, "odd", impl.LongOf(vec(0, num(nan), num(inf))), num(nan))
}

func TestBetweenVectors(t *testing.T) {
	a, b := vec(1, 2, -4), vec(3, 2, 4)
	wantVector(t, "half", impl.BetweenVectors(a, b, 0.5), vec(2, 2, 0))
	wantVector(t, "at a", impl.BetweenVectors(a, b, 0), a)
	wantVector(t, "at b", impl.BetweenVectors(a, b, 1), b)
	wantVector(t, "beyond", impl.BetweenVectors(a, b, 2), vec(5, 2, 12))
	wantVector(t, "before", impl.BetweenVectors(a, b, -1), vec(-1, 2, -12))
	// The share 1 does not lead back to b if the difference is rounded.
	wantVector(t, "rounded", impl.BetweenVectors(vec(1e8, 0, 0), vec(1, 0, 0), 1), vec(0, 0, 0))
	const near, square = 1 + 0x1p-12, 1 + 0x1p-11
	wantVector(t, "product", impl.BetweenVectors(vec(-square, 0, 0), vec(0x1p-12-0x1p-11, 0, 0), near), vec(0, 0, 0))
	wantVector(t, "-0", impl.BetweenVectors(vec(num(minusZ), 0, 0), vec(num(minusZ), 0, 0), 1), vec(0, 0, 0))
	wantVector(t, "odd", impl.BetweenVectors(vec(num(inf), 0, 0), vec(num(inf), 0, 0), 0.5), vec(num(nan), 0, 0))
}

func TestSameVector(t *testing.T) {
	a := vec(1, num(nan), num(minusZ))
	if !impl.SameVector(a, vec(1, num(0xffffffff), num(minusZ))) {
		t.Error("not-a-numbers are one value")
	}
	for _, b := range []impl.Vector{vec(2, num(nan), num(minusZ)), vec(1, 0, num(minusZ)), vec(1, num(nan), 0)} {
		if impl.SameVector(a, b) || impl.SameVector(b, a) {
			t.Errorf("%v and %v are the same", a, b)
		}
	}
	if !impl.SameVector(impl.Vector{}, impl.Vector{}) {
		t.Error("zeros differ")
	}
}
