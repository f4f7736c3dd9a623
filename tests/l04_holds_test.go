package tests

import (
	"math"
	"testing"

	"loop.example/g01222/impl"
)

func TestKindsOfHolds(t *testing.T) {
	want(t, "kinds", []int64{impl.HoldFixed, impl.HoldLine, impl.HoldPlane}, []int64{0, 1, 2})
}

func TestIsHold(t *testing.T) {
	for _, h := range validHolds() {
		want(t, told("valid hold", h), impl.IsHold(h), true)
	}
	for _, h := range invalidHolds() {
		want(t, told("invalid hold", h), impl.IsHold(h), false)
	}
	// A fixed hold needs no way, but a finite one.
	for _, x := range oddNumbers() {
		for kind := range int64(3) {
			h := impl.Hold{Kind: kind, At: vec(0, x, 0), Way: vec(1, 0, 0)}
			finite := x-x == 0
			want(t, told("At of kind", kind, x), impl.IsHold(h), finite)
			h = impl.Hold{Kind: kind, Way: vec(0, x, 0)}
			square := x * x
			want(t, told("Way of kind", kind, x), impl.IsHold(h), finite && (kind == 0 || square > 0 && square <= math.MaxFloat32))
		}
	}
}

func TestAreHolds(t *testing.T) {
	for i, h := range validHeld() {
		want(t, named("valid holds", i), impl.AreHolds(h.m, h.holds), true)
	}
	for i, h := range invalidHeld() {
		want(t, named("invalid holds", i), impl.AreHolds(h.m, h.holds), false)
	}
	want(t, "empty holds of nothing", impl.AreHolds(impl.Mesh{}, []impl.Hold{}), true)
	want(t, "the last place", impl.AreHolds(meshOf(64), []impl.Hold{fixedAt(63, impl.Vector{})}), true)
}

// TestHoldsArePlacesInOrder tries all lists of three places.
func TestHoldsArePlacesInOrder(t *testing.T) {
	m := meshOf(4, tri(0, 1, 2))
	for a := int64(-1); a < 6; a++ {
		for b := int64(-1); b < 6; b++ {
			for c := int64(-1); c < 6; c++ {
				holds := []impl.Hold{fixedAt(a, vec(1, 1, 1)), onPlane(b, vec(1, 1, 1), vec(1, 0, 0)), onLine(c, vec(1, 1, 1), vec(1, 0, 0))}
				allowed := a >= 0 && a < b && b < c && c < 4
				want(t, told("holds", a, b, c), impl.AreHolds(m, holds), allowed)
				_, ok := impl.HoldMesh(m, holds)
				want(t, told("mesh with holds", a, b, c), ok, allowed)
			}
		}
	}
}

func TestHoldForce(t *testing.T) {
	z := num(minusZ)
	cases := []struct {
		h           impl.Hold
		force, left impl.Vector
	}{
		{fixedAt(0, vec(1, 2, 3)), vec(3, 4, 5), vec(0, 0, 0)},
		{fixedAt(9, impl.Vector{}), vec(-3, z, num(inf)), vec(0, 0, 0)},
		{fixedAt(9, impl.Vector{}), vec(num(nan), num(negInf), z), vec(0, 0, 0)},
		{impl.Hold{At: vec(z, z, z), Way: vec(1, 0, 0)}, vec(3, 4, 5), vec(0, 0, 0)},
		{onLine(0, vec(7, 8, 9), vec(0, 2, 0)), vec(3, 4, 5), vec(0, 4, 0)},
		{onLine(0, vec(7, 8, 9), vec(0, 0, -4)), vec(3, 4, 5), vec(z, z, 5)},
		{onLine(3, vec(7, 8, 9), vec(1, 1, 0)), vec(2, 4, 6), vec(3, 3, 0)},
		{onLine(3, vec(7, 8, 9), vec(1, -1, 0)), vec(2, 2, 6), vec(0, z, 0)},
		{onLine(3, vec(7, 8, 9), vec(1, 0, 0)), vec(num(inf), 0, 0), vec(num(inf), num(nan), num(nan))},
		{onLine(3, vec(7, 8, 9), vec(1, 0, 0)), vec(0, num(nan), 0), vec(num(nan), num(nan), num(nan))},
		{onLine(0, impl.Vector{}, vec(0.3, -0.7, 1.1)), vec(1.3, 2.7, -0.9), vectorsOfBits(0xbed5aac5, 0x3f79473a, 0xbfc3dc89)[0]},
		{onPlane(0, vec(7, 8, 9), vec(0, 2, 0)), vec(3, 4, 5), vec(3, 0, 5)},
		{onPlane(0, vec(7, 8, 9), vec(0, 0, -4)), vec(3, 4, 5), vec(3, 4, 0)},
		{onPlane(3, vec(7, 8, 9), vec(1, 1, 0)), vec(2, 4, 6), vec(-1, 1, 6)},
		{onPlane(3, vec(7, 8, 9), vec(1, 0, 0)), vec(0, z, z), vec(0, z, z)},
		{onPlane(3, vec(7, 8, 9), vec(1, 0, 0)), vec(num(inf), 0, 1), vec(num(nan), num(nan), num(nan))},
		{onPlane(0, impl.Vector{}, vec(0.3, -0.7, 1.1)), vec(1.3, 2.7, -0.9), vectorsOfBits(0x3fdbd117, 0x3fdcf5fd, 0x3f2152ac)[0]},
	}
	for _, c := range cases {
		left, ok := impl.HoldForce(c.h, c.force)
		wantOk(t, told("left by", c.h, c.force), left, ok, c.left)
	}
}

func TestHoldPlace(t *testing.T) {
	z, far := num(minusZ), vec(num(nan), num(inf), num(negInf))
	cases := []struct {
		h          impl.Hold
		place, put impl.Vector
	}{
		{fixedAt(0, vec(1, 2, 3)), vec(3, 4, 5), vec(1, 2, 3)},
		{fixedAt(0, vec(z, num(1), 1e38)), far, vec(z, num(1), 1e38)},
		{impl.Hold{Place: 7, At: vec(z, 0, z), Way: vec(1, 0, 0)}, vec(0, z, 0), vec(z, 0, z)},
		{onLine(0, vec(1, 1, 1), vec(0, 2, 0)), vec(3, 4, 5), vec(1, 4, 1)},
		{onLine(0, vec(1, 1, 1), vec(0, -2, 0)), vec(3, 4, 5), vec(1, 4, 1)},
		{onLine(5, vec(1, 0, 0), vec(1, 1, 0)), vec(5, 2, 9), vec(4, 3, 0)},
		{onLine(5, vec(z, z, z), vec(1, 0, 0)), vec(-2, 5, 5), vec(-2, z, z)},
		{onLine(5, vec(z, z, z), vec(1, 0, 0)), vec(2, 5, 5), vec(2, 0, 0)},
		{onLine(0, vec(0.2, -1.4, 3.1), vec(0.3, -0.7, 1.1)), vec(5.3, 0.1, -2.2), vectorsOfBits(0xbf325788, 0x3f3132a2, 0xbe403700)[0]},
		{onLine(0, impl.Vector{}, vec(1, 0, 0)), far, vec(num(nan), num(nan), num(nan))},
		{onPlane(0, vec(1, 1, 1), vec(0, 2, 0)), vec(3, 4, 5), vec(3, 1, 5)},
		{onPlane(5, vec(1, 0, 0), vec(1, 1, 0)), vec(5, 2, 9), vec(2, -1, 9)},
		{onPlane(5, vec(1e8, 0, 0), vec(0, 0, 1)), vec(3, z, 2), vec(3, z, 0)},
		{onPlane(0, vec(0.2, -1.4, 3.1), vec(0.3, -0.7, 1.1)), vec(5.3, 0.1, -2.2), vectorsOfBits(0x40c64af1, 0xbffeffb7, 0x3f8b3a12)[0]},
		{onPlane(0, impl.Vector{}, vec(1, 0, 0)), vec(1, num(inf), 2), vec(num(nan), num(nan), num(nan))},
	}
	for _, c := range cases {
		put, ok := impl.HoldPlace(c.h, c.place)
		wantOk(t, told("put by", c.h, c.place), put, ok, c.put)
	}
}

// anyHolds are valid holds of each kind with numbers of usual size, and those with odd ones.
func anyHolds() []impl.Hold {
	d := dice(5)
	list := validHolds()
	for range 300 {
		list = append(list, d.hold(int64(d.below(9))))
	}
	return list
}

func TestHoldsOfAnyVector(t *testing.T) {
	d, odd := dice(6), oddNumbers()
	for _, h := range anyHolds() {
		for i := range 60 {
			v := d.vector()
			if i%2 == 1 {
				v = vec(odd[d.below(len(odd))], odd[d.below(len(odd))], odd[d.below(len(odd))])
			}
			left, ok := impl.HoldForce(h, v)
			wantOk(t, told("left by", h, v), left, ok, slowLeft(h, v))
			put, ok := impl.HoldPlace(h, v)
			wantOk(t, told("put by", h, v), put, ok, slowPut(h, v))
		}
	}
}

func TestNoHoldHoldsNothing(t *testing.T) {
	for _, h := range invalidHolds() {
		left, ok := impl.HoldForce(h, vec(3, 4, 5))
		wantNone(t, told("left by", h), left, ok)
		put, ok := impl.HoldPlace(h, vec(3, 4, 5))
		wantNone(t, told("put by", h), put, ok)
	}
}

// TestFixedPlacesStayToTheLastBit looks at all finite numbers of odd kinds.
func TestFixedPlacesStayToTheLastBit(t *testing.T) {
	odd := oddNumbers()
	for _, x := range odd {
		for _, y := range odd {
			at := vec(x, y, x)
			h := fixedAt(0, at)
			if !impl.IsHold(h) {
				continue
			}
			for _, place := range []impl.Vector{at, vec(y, x, y), vec(num(nan), num(inf), 1), {}} {
				put, ok := impl.HoldPlace(h, place)
				wantOk(t, told("put by", h), put, ok, at)
				m := impl.Mesh{Places: []impl.Vector{place, vec(y, num(nan), num(minusZ))}}
				held, ok := impl.HoldMesh(m, []impl.Hold{h})
				wantMesh(t, told("held by", h), held, ok, []impl.Vector{at, m.Places[1]}, nil)
			}
			for _, force := range []impl.Vector{at, vec(num(nan), num(inf), 1), vec(num(minusZ), -1, 1)} {
				left, ok := impl.HoldForce(h, force)
				wantOk(t, told("left by", h), left, ok, vec(0, 0, 0))
			}
		}
	}
}

// TestLinesAndPlanesShareForces checks what lines and planes are, apart from how it is computed.
func TestLinesAndPlanesShareForces(t *testing.T) {
	d := dice(7)
	for range 500 {
		at, way, v := d.vector(), d.vector(), d.vector()
		line, plane := onLine(0, at, way), onPlane(0, at, way)
		long := impl.LongOf(way)
		if long < 0.25 {
			continue
		}
		along, _ := impl.HoldForce(line, v)
		across, _ := impl.HoldForce(plane, v)
		near := 1e-5 * (1 + impl.LongOf(v)) * long
		if off := impl.LongOf(impl.CrossOf(along, way)); !(off < near) {
			t.Errorf("%v is off the way %v by %v", along, way, off)
		}
		if off := impl.InnerOf(across, way); !(max(off, -off) < near) {
			t.Errorf("%v is not in the plane across %v, by %v", across, way, off)
		}
		if off := impl.LongOf(impl.LessVectors(impl.AddVectors(along, across), v)); !(off < near) {
			t.Errorf("%v and %v are not all of %v", along, across, v)
		}
	}
}

func TestPlacesArePutOnLinesAndPlanes(t *testing.T) {
	d := dice(8)
	for range 500 {
		at, way, place := d.vector(), d.vector(), d.vector()
		long := impl.LongOf(way)
		if long < 0.25 {
			continue
		}
		near := 1e-5 * (1 + impl.LongOf(at) + impl.LongOf(place)) * max(1, long)
		onto, _ := impl.HoldPlace(onLine(0, at, way), place)
		if off := impl.LongOf(impl.CrossOf(impl.LessVectors(onto, at), way)); !(off < near) {
			t.Errorf("%v is off the line by %v", onto, off)
		}
		// The nearest place of a line or plane is where the way there is across or along.
		if off := impl.InnerOf(impl.LessVectors(place, onto), way); !(max(off, -off) < near) {
			t.Errorf("%v is not the nearest place of the line, by %v", onto, off)
		}
		in, _ := impl.HoldPlace(onPlane(0, at, way), place)
		if off := impl.InnerOf(impl.LessVectors(in, at), way); !(max(off, -off) < near) {
			t.Errorf("%v is off the plane by %v", in, off)
		}
		if off := impl.LongOf(impl.CrossOf(impl.LessVectors(place, in), way)); !(off < near) {
			t.Errorf("%v is not the nearest place of the plane, by %v", in, off)
		}
	}
}
