package tests

import (
	"math"
	"testing"

	"loop.example/g01222/impl"
)

// wantDraped asks where a ball puts a place, if it is not pinned, and whether the place is inside.
func wantDraped(t *testing.T, what string, place, centre impl.Vector, radius float32, expected impl.Vector, isInside bool) {
	t.Helper()
	c := clothAt([]impl.Vector{place, place, place})
	draped, ok := impl.DrapeCloth(pinnedAt(c, 1), centre, radius)
	wantCloth(t, what, draped, ok, withPlaces(pinnedAt(c, 1), expected, place, expected))
	draped, ok = impl.DrapeCloth(pinnedAt(c, 0, 1, 2), centre, radius)
	wantCloth(t, what+", all pinned", draped, ok, pinnedAt(c, 0, 1, 2))
	var places []int64
	if isInside {
		places = []int64{0, 1, 2}
	}
	for _, c := range []impl.Cloth{c, pinnedAt(c, 1), pinnedAt(c, 0, 1, 2)} {
		inside, ok := impl.InsideBall(c, centre, radius)
		wantOk(t, told(what, "inside, pinned", c.Pinned), inside, ok, places)
	}
}

func TestDrapeCloth(t *testing.T) {
	o, z := vec(0, 0, 0), num(minusZ)
	wantDraped(t, "a place inside", vec(0.5, 0, 0), o, 1, vec(1, 0, 0), true)
	wantDraped(t, "a place at the other side", vec(0, -0.25, 0), o, 1, vec(0, -1, 0), true)
	wantDraped(t, "a place below", vec(0, 0, -0.125), o, 4, vec(0, 0, -4), true)
	wantDraped(t, "two directions", vec(4, 6, 3), vec(1, 2, 3), 10, vec(7, 10, 3), true)
	wantDraped(t, "a place outside", vec(3, z, -2), o, 1, vec(3, z, -2), false)
	wantDraped(t, "just on the ball", vec(z, 3, -4), o, 5, vec(z, 3, -4), false)
	wantDraped(t, "just inside", vec(z, 3, -4), o, num(0x40a00001), vec(0, num(0x40400002), num(0xc0800001)), true)
	wantDraped(t, "zeros", vec(z, 0, 1), vec(0, z, 0), 2, vec(0, 0, 2), true)
	wantDraped(t, "zeros of the centre", vec(z, 0, 1), vec(z, z, z), 2, vec(0, 0, 2), true)
	for i, c := range []impl.Cloth{{}, {Places: []impl.Vector{}, Olds: []impl.Vector{}}} {
		draped, ok := impl.DrapeCloth(c, o, 1)
		wantCloth(t, named("no places", i), draped, ok, impl.Cloth{})
		inside, ok := impl.InsideBall(c, o, 1)
		wantOk(t, named("inside no places", i), inside, ok, nil)
	}
}

func TestPlacesInTheCentreOfABall(t *testing.T) {
	o, z, n, i, most := vec(0, 0, 0), num(minusZ), num(nan), num(inf), float32(math.MaxFloat32)
	wantDraped(t, "the centre", o, o, 1, vec(0, 0, 1), true)
	wantDraped(t, "another centre", vec(1, -2, 3), vec(1, -2, 3), 2, vec(1, -2, 5), true)
	wantDraped(t, "a centre of zeros", vec(z, 0, z), vec(z, z, z), 1, vec(0, 0, 1), true)
	wantDraped(t, "the least radius", vec(1, z, 0), vec(1, z, 0), num(1), vec(1, 0, num(1)), true)
	wantDraped(t, "the greatest radius", o, o, most, vec(0, 0, most), true)
	wantDraped(t, "a radius that is too great", vec(0, 0, most), vec(0, 0, most), most, vec(0, 0, i), true)
	// A radius that is lost beside the centre leaves the place in it.
	wantDraped(t, "a radius that is too small", vec(1, 1, 1e8), vec(1, 1, 1e8), 1, vec(1, 1, 1e8), true)
	// The squares of these ways are +0, so these places are in the centre as well.
	wantDraped(t, "beside the centre", vec(1e-30, -1e-25, 0), o, 1, vec(0, 0, 1), true)
	wantDraped(t, "just below the centre", vec(0, z, -num(1)), o, 1, vec(0, 0, 1), true)
	wantDraped(t, "the last such way", vec(num(0x1a000000), 0, 0), o, 1, vec(0, 0, 1), true)
	// The square of the next way is rounded up by so much that the place is not put out as far.
	wantDraped(t, "the first other way", vec(num(0x1a000001), 0, 0), o, 1, vec(num(0x3f3504f4), 0, 0), true)
	// A ball of this radius has places with such ways just outside as well.
	wantDraped(t, "a tiny ball", vec(1e-30, 0, 0), o, num(1), vec(0, 0, num(1)), true)
	// The quotient of the radius and this way is infinite.
	wantDraped(t, "too great a quotient", vec(1e-20, 0, -1e-21), o, 1e30, vec(i, n, -i), true)
}

func TestBallsAndPlacesThatAreNotFinite(t *testing.T) {
	o, x, n, i, most := vec(0, 0, 0), vec(1, 2, 3), num(nan), num(inf), float32(math.MaxFloat32)
	for _, v := range []impl.Vector{vec(n, 0, 0), vec(0, n, 0), vec(0, 0, n), vec(n, n, n), vec(i, 0, 0), vec(0, -i, 0), vec(0, 0, i), vec(i, n, -i)} {
		for _, radius := range []float32{num(1), 1, most} {
			wantDraped(t, told("place", v, radius), v, o, radius, v, false)
			wantDraped(t, told("centre", v, radius), x, v, radius, x, false)
			wantDraped(t, told("place and centre", v, radius), v, v, radius, v, false)
		}
	}
	// The square of this way is infinite, so it is longer than any radius.
	wantDraped(t, "too great a way", vec(1e20, 0, 0), o, most, vec(1e20, 0, 0), false)
	wantDraped(t, "too great a difference", vec(most, 0, 0), vec(-most, 0, 0), most, vec(most, 0, 0), false)
	wantDraped(t, "put as far as can be", vec(2e38, 0, 1e18), vec(2e38, 0, 0), most, vec(2e38, 0, most), true)
}

func TestRadiiOfBalls(t *testing.T) {
	for i, c := range []impl.Cloth{{}, looseCloth(1), mixedCloth(1, 4), sail()} {
		for _, radius := range badSteps() {
			draped, ok := impl.DrapeCloth(c, vec(0, 0, 0), radius)
			wantNone(t, told("cloth", i, "radius", radius), draped, ok)
			inside, ok := impl.InsideBall(c, vec(0, 0, 0), radius)
			wantNone(t, told("inside of cloth", i, "radius", radius), inside, ok)
		}
		for _, radius := range oddNumbers() {
			draped, ok := impl.DrapeCloth(c, vec(0.1, 0.2, 0.3), radius)
			inside, isBall := impl.InsideBall(c, vec(0.1, 0.2, 0.3), radius)
			if !isLength(radius) {
				wantNone(t, told("cloth", i, "radius", radius), draped, ok)
				wantNone(t, told("inside of cloth", i, "radius", radius), inside, isBall)
				continue
			}
			wantCloth(t, told("cloth", i, "radius", radius), draped, ok, slowDraped(c, vec(0.1, 0.2, 0.3), radius))
			wantOk(t, told("inside of cloth", i, "radius", radius), inside, isBall, slowInside(c, vec(0.1, 0.2, 0.3), radius))
		}
	}
}

// TestDrapeClothToTheLastBit has values that were computed outside of the program.
func TestDrapeClothToTheLastBit(t *testing.T) {
	centre := vec(0.5, 0.3, -0.2)
	places := vectorsOfBits(0xbe373aac, 0x3e056489, 0x3f260f22, 0xbf0c9c7e, 0x3d1a5ad8, 0x3f8e4834, 0x3fc8c529, 0xbf228c3d, 0x3f3c25d6,
		0x3f346455, 0x3ff7f7ba, 0xbf1bfbde, 0x3f1ae302, 0xbfa34028, 0xbf54853e)
	cases := []struct {
		pinned []int64
		radius float32
		moved  map[int]impl.Vector
	}{
		{nil, 1.1, map[int]impl.Vector{0: places[0]}}, {[]int64{1, 4}, 1.1, map[int]impl.Vector{0: places[0]}}, {[]int64{0}, 1.1, nil},
		{nil, 1.7, map[int]impl.Vector{0: places[1], 1: places[2], 2: places[3], 5: places[4]}},
		{[]int64{1, 4}, 1.7, map[int]impl.Vector{0: places[1], 2: places[3], 5: places[4]}}, {nil, 0.6, nil},
	}
	for _, c := range cases {
		cloth := mixedCloth(c.pinned...)
		draped, ok := impl.DrapeCloth(cloth, centre, c.radius)
		wantCloth(t, told("radius", c.radius, "pinned", c.pinned), draped, ok, changedCloth(cloth, func(next *impl.Cloth) {
			for i, place := range c.moved {
				next.Places[i] = place
			}
		}))
	}
	for radius, expected := range map[float32][]int64{0.01: nil, 1.1: {0}, 1.3: {0, 1}, 1.62: {0, 1, 5}, 1.7: {0, 1, 2, 5}, 2.1: {0, 1, 2, 3, 5}, 3: {0, 1, 2, 3, 4, 5}} {
		for _, pinned := range [][]int64{nil, {1, 4}, {0, 1, 2, 3, 4, 5}} {
			inside, ok := impl.InsideBall(mixedCloth(pinned...), centre, radius)
			wantOk(t, told("inside", radius, "pinned", pinned), inside, ok, expected)
		}
	}
}

func TestDrapeClothIsThatOfTheText(t *testing.T) {
	d, odd := dice(65), oddNumbers()
	for i, c := range validCloths() {
		for j := range 4 {
			centre, radius := d.vector(), float32(1+d.below(50))/10
			switch {
			case j == 1 && len(c.Places) > 0:
				centre = c.Places[d.below(len(c.Places))]
			case j == 2:
				centre = vec(odd[d.below(len(odd))], odd[d.below(len(odd))], 0)
			case j == 3:
				radius = max(num(1), odd[i%24])
			}
			what := told("cloth", i, "centre", centre, "radius", radius)
			draped, ok := impl.DrapeCloth(c, centre, radius)
			wantCloth(t, what, draped, ok, slowDraped(c, centre, radius))
			wantPinned(t, what, c, draped)
			inside, ok := impl.InsideBall(c, centre, radius)
			wantOk(t, what+"inside", inside, ok, slowInside(c, centre, radius))
		}
	}
}

// wideLong is a length that is not rounded to 32 bits.
func wideLong(v, from impl.Vector) float64 {
	return math.Hypot(math.Hypot(float64(v.X)-float64(from.X), float64(v.Y)-float64(from.Y)), float64(v.Z)-float64(from.Z))
}

// wantOutside asks that all places but pins are outside of a ball, but for what rounding takes.
func wantOutside(t *testing.T, what string, c impl.Cloth, centre impl.Vector, radius float32) {
	t.Helper()
	little := 3e-7 * (wideLong(centre, impl.Vector{}) + float64(radius))
	for i, place := range c.Places {
		if d := wideLong(place, centre); !(d >= float64(radius)-little) && !holds(c.Pinned, int64(i)) {
			t.Errorf("%s: place %d is at %v from the centre, inside of %v", what, i, d, radius)
		}
	}
}

// TestDrapedClothIsOutside asks for it nearly, and that places go straight out, as far as they must.
func TestDrapedClothIsOutside(t *testing.T) {
	d := dice(66)
	moved := 0
	for i, c := range append(usualCloths(), stillCloths()...) {
		for j := range 5 {
			centre, radius := d.vector(), float32(1+d.below(40))/8
			if j == 0 && len(c.Places) > 0 {
				centre = c.Places[d.below(len(c.Places))]
			}
			what := told("cloth", i, "centre", centre, "radius", radius)
			draped, ok := impl.DrapeCloth(c, centre, radius)
			want(t, what, ok, true)
			wantOutside(t, what, draped, centre, radius)
			inside, _ := impl.InsideBall(c, centre, radius)
			for k, place := range c.Places {
				if !holds(inside, int64(k)) || holds(c.Pinned, int64(k)) {
					wantVector(t, told(what, "kept place", k), draped.Places[k], place)
					continue
				}
				moved++
				way, out := wideLong(place, centre), wideLong(draped.Places[k], centre)
				if way > 0 && math.Abs(out-way-wideLong(draped.Places[k], place)) > 1e-5*(1+out) || math.Abs(out-float64(radius)) > 1e-5*(1+out) {
					t.Errorf("%s: place %v becomes %v", what, place, draped.Places[k])
				}
			}
		}
	}
	if moved < 1000 {
		t.Errorf("just %d places were moved", moved)
	}
}
