package tests

import (
	"testing"

	"loop.example/g01222/impl"
)

func TestIsHeld(t *testing.T) {
	for i, h := range validHeldBodies() {
		want(t, named("held places", i), impl.IsHeld(h.b, h.held), true)
	}
	b := mixedBody()
	for _, held := range [][]int64{nil, {}, {0}, {5}, {0, 5}, {1, 2}, {1, 3, 4}, {0, 1, 2, 3, 4, 5}} {
		want(t, told("held", held), impl.IsHeld(b, held), true)
	}
	for _, h := range invalidHeldBodies() {
		want(t, told("not held", h.held), impl.IsHeld(h.b, h.held), false)
	}
	want(t, "no places", impl.IsHeld(impl.Body{}, nil), true)
	want(t, "an invalid body", impl.IsHeld(impl.Body{Weights: []float32{0}}, nil), false)
	for place := range int64(64) {
		want(t, told("one place of 64", place), impl.IsHeld(bodyOf(meshOf(64)), []int64{place}), true)
	}
}

func TestFreeForces(t *testing.T) {
	b := mixedBody()
	forces, ok := impl.FreeForces(b, []int64{1, 4})
	wantVectors(t, "forces of the mixed body", forces, ok, vectorsOfBits(
		0x3ff3362c, 0xc041967c, 0xc0ac2302, 0, 0, 0, 0xbd6d0259, 0xbfe5beb4, 0xc02676f9,
		0x3f4482cc, 0x3dc11166, 0xc139e91a, 0, 0, 0, 0xbf38218c, 0x4048815b, 0xbf945016))
	for i, h := range append(validHeldBodies(), anyHeldBodies()...) {
		forces, ok := impl.FreeForces(h.b, h.held)
		wantVectors(t, named("free forces", i), forces, ok, slowFree(h))
		all, ok := impl.FreeForces(h.b, nil)
		wantVectors(t, named("forces without holds", i), all, ok, slowForces(h.b))
	}
	for i, h := range invalidHeldBodies() {
		forces, ok := impl.FreeForces(h.b, h.held)
		wantNone(t, named("forces of an invalid body", i), forces, ok)
	}
}

func TestHeldPlacesHaveNoForce(t *testing.T) {
	b := weight(0, 1)
	for _, x := range oddNumbers() {
		b.Fall = vec(x, -x, x)
		forces, ok := impl.FreeForces(b, []int64{0})
		wantVectors(t, told("held in", x), forces, ok, []impl.Vector{vec(0, 0, 0)})
		rest, ok := impl.RestOf(b, []int64{0})
		wantSum(t, told("rest in", x), rest, ok, 0)
	}
}

func TestRestOf(t *testing.T) {
	mixed := mixedBody()
	rest, ok := impl.RestOf(mixed, []int64{1, 4})
	wantSum(t, "rest of the mixed body", rest, ok, num(0x413a5269))
	rest, ok = impl.RestOf(mixed, []int64{0, 1, 2, 3, 4, 5})
	wantSum(t, "all places held", rest, ok, 0)
	rest, ok = impl.RestOf(impl.Body{}, nil)
	wantSum(t, "no places", rest, ok, 0)

	b := bodyOf(meshOf(5))
	b.Fall = vec(3, 4, 0)
	b.Weights = []float32{-2, num(nan), 1, num(inf), 1e30}
	cases := []struct {
		held []int64
		rest float32
	}{
		{nil, num(nan)}, {[]int64{0, 2, 3, 4}, num(nan)}, {[]int64{1}, num(nan)}, // +0 times an infinity
		{[]int64{1, 3}, num(inf)}, {[]int64{1, 3, 4}, 10}, {[]int64{0, 1, 3, 4}, 5}, {[]int64{0, 1, 2, 3, 4}, 0},
	}
	for _, c := range cases {
		rest, ok := impl.RestOf(b, c.held)
		wantSum(t, told("rest with", c.held), rest, ok, c.rest)
	}
	b.Fall = vec(3, 4, 5)
	rest, ok = impl.RestOf(b, []int64{1})
	wantSum(t, "an infinite force", rest, ok, num(inf))
	for i, h := range invalidHeldBodies() {
		rest, ok := impl.RestOf(h.b, h.held)
		wantNoSum(t, named("rest of an invalid body", i), rest, ok)
	}
}

func TestRestIsTheGreatestFreeForce(t *testing.T) {
	for i, h := range append(validHeldBodies(), anyHeldBodies()...) {
		greatest := 0.0
		for _, force := range slowFree(h) {
			// Once it is a not-a-number, no comparison holds any more.
			if long := pointOf(force).long(); !(long <= greatest) && greatest == greatest {
				greatest = long
			}
		}
		rest, ok := impl.RestOf(h.b, h.held)
		wantSum(t, named("rest", i), rest, ok, float32(greatest))
	}
}
