package tests

import (
	"math"
	"testing"

	"loop.example/g01222/impl"
)

// TestNormVectorsToTheLastBit has values that were computed outside of the program.
func TestNormVectorsToTheLastBit(t *testing.T) {
	s, z := mixedSway(), num(minusZ)
	for _, c := range []struct {
		v    []impl.Vector
		bits []uint32
	}{
		{s.v, []uint32{0x3d847f4a, 0xbe1a9480, 0x3e72e95c, 0x3efdf3f7, 0x3db0a9b7, 0xbe047f4a, 0xbe847f4a, 0x3e46beee, 0x3cb0a9b7,
			0x3ddcd425, 0x3ddcd425, 0xbddcd425, 0x3ea59f1c, 0xbf0a0497, 0x3d5cd425, 0xbcb0a9b7, 0x3e047f4a, 0xbe9a9480}},
		{s.first, []uint32{0x3e9a1392, 0x3d7685b7, 0xbdb8e449, 0x3df685b7, 0x3df685b7, 0x3e38e449, 0x3e57b4ff, 0xbf125f64, 0x3d7685b7,
			0xbe7685b7, 0x3cf685b7, 0x3e8aab36, 0x3db8e449, 0xbe1a1392, 0x3ec09876, 0x3ea97bee, 0xbe38e449, 0x3df685b7}},
		{[]impl.Vector{vec(3, 4, 0)}, []uint32{0x3f19999a, 0x3f4ccccd, 0}},
		{[]impl.Vector{vec(1, 1, 1)}, []uint32{0x3f13cd3a, 0x3f13cd3a, 0x3f13cd3a}},
		{[]impl.Vector{{}, vec(2, 0, 0)}, []uint32{0, 0, 0, 0x3f800000, 0, 0}},
		{[]impl.Vector{vec(0.1, 0, 0), vec(0, 0.1, 0), vec(0, 0, 0.1)}, []uint32{0x3f13cd3b, 0, 0, 0, 0x3f13cd3b, 0, 0, 0, 0x3f13cd3b}},
		// Squares that are added from left to right, and rounded each time.
		{[]impl.Vector{vec(1, 0, 0), vec(1e4, 0, 0), vec(1, 0, 0)}, []uint32{0x38d1b717, 0, 0, 0x3f800000, 0, 0, 0x38d1b717, 0, 0}},
		// Subnormal squares, of which the first is the least one, and squares that are nearly too great.
		{[]impl.Vector{vec(3.8e-23, 0, 0)}, []uint32{0x3f81ef85, 0, 0}},
		{[]impl.Vector{vec(1e-22, 0, 0)}, []uint32{0x3f813d57, 0, 0}},
		{[]impl.Vector{vec(1e-22, 1e-22, -1e-22), vec(0, 2e-22, 0)}, []uint32{0x3ec16d9b, 0x3ec16d9b, 0xbec16d9b, 0, 0x3f416d9b, 0}},
		{[]impl.Vector{vec(1e-20, 0, 0)}, []uint32{0x3f800016, 0, 0}},
		{[]impl.Vector{vec(-1e-23, 1e-19, 0)}, []uint32{0xb8d1b717, 0x3f7fffff, 0}},
		{[]impl.Vector{vec(1e19, 0, 0)}, []uint32{0x3f800000, 0, 0}},
		{[]impl.Vector{vec(1.3e19, 1.3e19, 0)}, []uint32{0x3f3504f4, 0x3f3504f4, 0}},
		{[]impl.Vector{vec(1.8e19, 0, 0)}, []uint32{0x3f800000, 0, 0}},
		{[]impl.Vector{vec(1e10, 1, 0)}, []uint32{0x3f800000, 0x2edbe6ff, 0}},
		{[]impl.Vector{vec(1, 1e-30, z)}, []uint32{0x3f800000, 0x0da24260, minusZ}},
		{[]impl.Vector{vec(num(1), 1, 0)}, []uint32{1, 0x3f800000, 0}},
		// As many vectors as there can be.
		{repeat(vec(1, 0, 0), 256), repeat3(256, 0x3d800000, 0, 0)},
		{repeat(vec(1, -2, 0.5), 256), repeat3(256, 0x3cdf7482, 0xbd5f7482, 0x3c5f7482)},
	} {
		unit, ok := impl.NormVectors(c.v)
		wantOk(t, told("norm of", len(c.v), c.v[0]), unit, ok, vectorsOfBits(c.bits...))
	}
}

// repeat3 returns a list of n times three numbers.
func repeat3(n int, x, y, z uint32) []uint32 {
	var list []uint32
	for range n {
		list = append(list, x, y, z)
	}
	return list
}

func TestNormVectorsNeedsALength(t *testing.T) {
	z := num(minusZ)
	lists := [][]impl.Vector{
		nil, {}, {{}}, {vec(z, 0, z)}, make([]impl.Vector, 64), make([]impl.Vector, 256), {vec(1e-23, 1e-23, 1e-23)}, {vec(num(1), 0, 0)},
		{vec(1.9e19, 0, 0)}, {vec(1e20, 0, 0)}, {vec(1.5e19, 1.5e19, 0)}, {vec(1.8e19, 0, 0), vec(0, 1.8e19, 0)}, {vec(0, 0, math.MaxFloat32)},
		repeat(vec(1, 0, 0), 257), repeat(vec(1, 0, 0), 5000), make([]impl.Vector, 257),
	}
	for _, x := range nums(inf, negInf, nan, 0xffc00001) {
		lists = append(lists, []impl.Vector{vec(x, 0, 0)}, []impl.Vector{vec(1, x, 0), vec(1, 2, 3)}, []impl.Vector{vec(1, 2, 3), vec(0, 0, x)})
	}
	for i, v := range lists {
		unit, ok := impl.NormVectors(v)
		wantNone(t, told("norm of list", i), unit, ok)
	}
}

func TestNormVectorsIsThatOfTheText(t *testing.T) {
	lists := oddVectors()
	for _, s := range allSways() {
		lists = append(lists, s.v)
	}
	exist := 0
	for i, v := range lists {
		unit, ok := impl.NormVectors(v)
		expected, exists := slowNorm(v)
		if !exists || len(v) > 256 {
			wantNone(t, named("norm", i), unit, ok)
			continue
		}
		exist++
		wantOk(t, named("norm", i), unit, ok, expected)
		if square := slowInner(unit, unit); slowInner(v, v) > 1e-30 && !(math.Abs(square-1) < 1e-5) {
			t.Errorf("norm %d has the square %v", i, square)
		}
	}
	if exist < 100 || exist > len(lists)-100 {
		t.Errorf("%d of %d lists have a norm", exist, len(lists))
	}
}

// wantWithout asks for vectors without their part along others.
func wantWithout(t *testing.T, v, w, expected []impl.Vector) {
	t.Helper()
	rest, ok := impl.WithoutPart(v, w)
	wantOk(t, told("rest of", v, w), rest, ok, expected)
}

// TestWithoutPartToTheLastBit has values that were computed outside of the program.
func TestWithoutPartToTheLastBit(t *testing.T) {
	s := mixedSway()
	wantWithout(t, s.v, s.first, vectorsOfBits(
		0x3eecf186, 0xbf2add9b, 0x3f868c9b, 0x40175dff, 0x3eee232c, 0xbf0098d3, 0xbf8b03d1, 0x3f173946, 0x3e07bcc5,
		0x3ebd5343, 0x3f042acc, 0xbeb4fdac, 0x3fc64032, 0xc025357f, 0x3ee82de7, 0x3da1e941, 0x3f0098d3, 0xbfaadd9b))
	wantWithout(t, s.first, s.v, vectorsOfBits(
		0x3f8335c6, 0x3e10e111, 0xbe5509e8, 0x3f179ee6, 0x3eddeb95, 0x3f0cc284, 0x3f198507, 0xbfe991e2, 0x3e555c31,
		0xbf421990, 0x3e11335b, 0x3f5bb329, 0x3ed9cd08, 0xbf358031, 0x3fa2accf, 0x3f8bbae0, 0xbf0cc284, 0x3e90e111))
	wantWithout(t, []impl.Vector{vec(0.1, 0.2, 0.3), vec(0.7, -0.4, 0.6)}, []impl.Vector{vec(0.3, 0.1, -0.2), vec(0.5, 0.5, 0.9)},
		vectorsOfBits(0xbd26aa36, 0x3e1cc726, 0x3ec99f41, 0x3eee5846, 0xbf226d77, 0x3e36338e))

	x, z, e, i := num(nan), num(minusZ), float32(1e20), num(inf)
	for _, c := range []struct{ v, w, rest impl.Vector }{
		{vec(1, 1, 0), vec(1, 0, 0), vec(0, 1, 0)}, {vec(1, 1, 0), vec(-4, 0, 0), vec(0, 1, 0)},
		{vec(1, 2, 3), vec(-1, 0, 1), vec(2, 2, 2)}, {vec(3, 2, 1), vec(-1, 0, 1), vec(2, 2, 2)}, {vec(1, 2, 3), vec(1, 2, 3), vec(0, 0, 0)},
		// Without a length, there is no part along it.
		{vec(1, 2, 3), vec(0, 0, 0), vec(1, 2, 3)}, {vec(1, 0, 0), vec(1e-23, 0, 0), vec(1, 0, 0)}, {vec(1, 2, 3), vec(x, 1, 0), vec(x, 2, 3)},
		{vec(z, 0, 1), vec(z, z, 0), vec(0, 0, 1)}, {vec(z, 0, -1), vec(1, 1, 0), vec(z, 0, -1)},
		// Squares and products that are subnormal, infinite or none.
		{vec(1, 0, 0), vec(1e-22, 0, 0), vec(num(0xbc9f7040), 0, 0)}, {vec(1e30, 1, -1), vec(1e-20, 0, 1e-20), vec(num(negInf), x, num(negInf))},
		{vec(1, 2, 3), vec(e, 0, 0), vec(1, 2, 3)}, {vec(e, 2, 3), vec(e, 0, 0), vec(x, x, x)}, {vec(1, 2, 3), vec(i, 1, 0), vec(x, x, x)},
		{vec(x, 2, 3), vec(1, 1, 0), vec(x, x, x)}, {vec(i, 2, 3), vec(0, 1, 0), vec(x, x, x)}, {vec(i, 2, 3), vec(1, 0, 0), vec(x, x, x)},
	} {
		wantWithout(t, []impl.Vector{c.v}, []impl.Vector{c.w}, []impl.Vector{c.rest})
	}
	// The part is that of both lists in all.
	wantWithout(t, []impl.Vector{vec(3, 0, 0), vec(0, 0, 1)}, []impl.Vector{vec(1, 0, 0), vec(1, 0, 0)}, []impl.Vector{vec(1.5, 0, 0), vec(-1.5, 0, 1)})
	wantWithout(t, nil, nil, nil)
	wantWithout(t, []impl.Vector{}, nil, nil)
}

func TestWithoutPartTakesListsOfTheSameLength(t *testing.T) {
	counts := []int{0, 1, 2, 6, 63, 64, 65, 255, 256, 257, 5000}
	for _, n := range counts {
		for _, m := range counts {
			v, w := repeat(vec(3, 1, 0), n), repeat(vec(2, 0, 0), m)
			rest, ok := impl.WithoutPart(v, w)
			what := told("rest of", n, "and", m)
			if n == m && n <= 256 {
				wantOk(t, what, rest, ok, repeat(vec(0, 1, 0), n))
			} else {
				wantNone(t, what, rest, ok)
			}
		}
	}
}

func TestWithoutPartIsThatOfTheText(t *testing.T) {
	for i, s := range allSways() {
		rest, ok := impl.WithoutPart(s.v, s.first)
		wantOk(t, named("rest", i), rest, ok, slowWithout(s.v, s.first))
	}
	lists := oddVectors()
	for i, v := range lists[:len(lists)-2] {
		w := repeat(vec(1, 2, -0.5), len(v))
		wantWithout(t, v, w, slowWithout(v, w))
		wantWithout(t, w, v, slowWithout(w, v))
		wantWithout(t, v, lists[i], slowWithout(v, v))
	}
}

// TestRestsAreAcross looks at what is left of vectors without the program.
func TestRestsAreAcross(t *testing.T) {
	d := dice(44)
	for n := range 257 {
		v, w := d.list(n, d.number), d.list(n, d.number)
		rest, ok := impl.WithoutPart(v, w)
		if along := slowInner(rest, w); !ok || !(math.Abs(along) <= 1e-5*(1+longAll(v)*longAll(w))) {
			t.Errorf("%d vectors: %v along the others, %v", n, along, ok)
		}
	}
}
