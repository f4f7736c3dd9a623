package tests

import (
	"testing"

	"loop.example/g01222/impl"
)

// manyForces are forces for each place of a mesh, some of which are not finite.
func manyForces(m impl.Mesh) []impl.Vector {
	d, odd := dice(9), oddNumbers()
	list := make([]impl.Vector, len(m.Places))
	for i := range list {
		list[i] = d.vector()
		if i%7 == 2 {
			list[i] = vec(odd[d.below(len(odd))], odd[d.below(len(odd))], odd[d.below(len(odd))])
		}
	}
	return list
}

func TestHoldForces(t *testing.T) {
	for i, h := range validHeld() {
		forces := manyForces(h.m)
		expected := append([]impl.Vector{}, forces...)
		for _, hold := range h.holds {
			expected[hold.Place] = slowLeft(hold, forces[hold.Place])
		}
		left, ok := impl.HoldForces(h.m, h.holds, forces)
		wantVectors(t, named("left of forces", i), left, ok, expected)
	}
	h := mixedHeld()
	gas, _ := impl.GasForces(h.m, 1.7)
	left, ok := impl.HoldForces(h.m, h.holds, gas)
	wantVectors(t, "left of a gas", left, ok, vectorsOfBits(
		0x3eff513c, 0x3f0b4395, 0x3fae147a, 0x3e34988a, 0xbed2b1f5, 0x3f258bd3, 0xbf58263a, 0x3f1ed917, 0x401028f6,
		0x3f0e4555, 0xbda495ae, 0x3e2c2e50, 0xbfabe76c, 0x3d9cac0e, 0x3f647ae2, 0, 0, 0))
}

func TestHoldForcesTakesAForceForEachPlace(t *testing.T) {
	for _, places := range []int{0, 1, 2, 63, 64} {
		for _, forces := range []int{0, 1, 2, 3, 63, 64, 65, 300} {
			m, list := meshOf(places), make([]impl.Vector, forces)
			left, ok := impl.HoldForces(m, nil, list)
			torque, turns := impl.TorqueOf(m, list)
			what := told(places, "places and forces", forces)
			if places == forces {
				wantVectors(t, what, left, ok, list)
				wantOk(t, what, torque, turns, vec(0, 0, 0))
			} else {
				wantNone(t, what, left, ok)
				wantNone(t, what, torque, turns)
			}
		}
	}
}

func TestHoldMesh(t *testing.T) {
	for i, h := range validHeld() {
		expected := append([]impl.Vector{}, h.m.Places...)
		for _, hold := range h.holds {
			expected[hold.Place] = slowPut(hold, h.m.Places[hold.Place])
		}
		held, ok := impl.HoldMesh(h.m, h.holds)
		wantMesh(t, named("held mesh", i), held, ok, expected, h.m.Triangles)
	}
	h := mixedHeld()
	expected := append([]impl.Vector{}, h.m.Places...)
	expected[1] = vectorsOfBits(0xbeaec43a, 0xbe0c2808, 0x3f8ebb0f)[0]
	expected[3] = vectorsOfBits(0xbf5ca01e, 0x3e51745c, 0xbe2ff120)[0]
	expected[5] = vec(0.7, -1.1, -0.9)
	held, ok := impl.HoldMesh(h.m, h.holds)
	wantMesh(t, "the mixed mesh", held, ok, expected, h.m.Triangles)
	off, ok := impl.OffHolds(h.m, h.holds)
	wantSum(t, "off the holds", off, ok, num(0x3fe2df80))
	off, ok = impl.OffHolds(h.m, h.holds[1:])
	wantSum(t, "off the plane", off, ok, num(0x3f9fe06a))
	off, ok = impl.OffHolds(h.m, h.holds[2:])
	wantSum(t, "off the fixed place", off, ok, num(0x3e315caa))
}

func TestHeldMeshesAreNearlyHeld(t *testing.T) {
	for i, h := range validHeld() {
		held, _ := impl.HoldMesh(h.m, h.holds)
		size := float32(1)
		for _, place := range held.Places {
			if long := impl.LongOf(place); long > size {
				size = long
			}
		}
		off, ok := impl.OffHolds(held, h.holds)
		if !ok || !(off <= 1e-5*size) {
			t.Errorf("held mesh %d is off by %v", i, off)
		}
		again, ok := impl.HoldMesh(held, h.holds)
		if !ok || len(again.Places) != len(held.Places) {
			t.Fatalf("mesh %d held again: %d places, %v", i, len(again.Places), ok)
		}
		for _, hold := range h.holds {
			if hold.Kind == impl.HoldFixed {
				wantVector(t, named("fixed place of mesh", i), again.Places[hold.Place], held.Places[hold.Place])
			}
		}
	}
}

func TestOffHolds(t *testing.T) {
	m := impl.Mesh{Places: []impl.Vector{vec(3, 4, 0), vec(num(inf), 0, 0), vec(num(nan), 0, 0), vec(1e30, 0, 0), vec(1, 2, 3), vec(num(minusZ), 0, 0)}}
	x, y := vec(1, 0, 0), vec(0, 2, 0)
	at := vec(0, 0, 0)
	cases := map[string]struct {
		holds []impl.Hold
		off   float32
	}{
		"no holds":                {nil, 0},
		"a fixed place":           {[]impl.Hold{fixedAt(0, at)}, 5},
		"one that is there":       {[]impl.Hold{fixedAt(0, vec(3, 4, 0))}, 0},
		"a fixed zero":            {[]impl.Hold{fixedAt(5, at)}, 0},
		"a line":                  {[]impl.Hold{onLine(0, at, x)}, 4},
		"a plane":                 {[]impl.Hold{onPlane(0, at, x)}, 3},
		"a plane and a line":      {[]impl.Hold{onPlane(0, at, y), onLine(4, at, y)}, 4},
		"a line and a plane":      {[]impl.Hold{onLine(0, at, y), onPlane(4, at, y)}, 3},
		"the last one":            {[]impl.Hold{fixedAt(0, vec(3, 4, 1)), fixedAt(4, vec(1, 5, 7))}, 5},
		"an infinite one":         {[]impl.Hold{fixedAt(0, at), fixedAt(1, at)}, num(inf)},
		"one that is too far":     {[]impl.Hold{fixedAt(0, at), fixedAt(3, at)}, num(inf)},
		"a not-a-number":          {[]impl.Hold{fixedAt(2, at)}, 0},
		"not-a-numbers":           {[]impl.Hold{onPlane(1, at, x), onLine(2, at, y)}, 0},
		"a not-a-number at last":  {[]impl.Hold{fixedAt(0, at), fixedAt(2, at)}, 5},
		"a not-a-number at first": {[]impl.Hold{fixedAt(2, at), fixedAt(4, vec(1, 2, 4))}, 1},
		"an infinite line":        {[]impl.Hold{onLine(0, at, x), onLine(1, at, x)}, 4},
	}
	for what, c := range cases {
		off, ok := impl.OffHolds(m, c.holds)
		wantSum(t, what, off, ok, c.off)
	}
	off, ok := impl.OffHolds(impl.Mesh{}, nil)
	wantSum(t, "no places", off, ok, 0)
	for i, h := range validHeld() {
		var expected float32
		for _, hold := range h.holds {
			place := h.m.Places[hold.Place]
			if long := float32(pointOf(place).minus(pointOf(slowPut(hold, place))).long()); long > expected {
				expected = long
			}
		}
		off, ok := impl.OffHolds(h.m, h.holds)
		wantSum(t, named("off holds", i), off, ok, expected)
	}
}

func TestFreePlaces(t *testing.T) {
	for i, h := range validHeld() {
		var expected []int64
		for place := range int64(len(h.m.Places)) {
			held := false
			for _, hold := range h.holds {
				held = held || hold.Place == place
			}
			if !held {
				expected = append(expected, place)
			}
		}
		free, ok := impl.FreePlaces(h.m, h.holds)
		wantOk(t, named("free places", i), free, ok, expected)
	}
	h := mixedHeld()
	free, ok := impl.FreePlaces(h.m, h.holds)
	wantOk(t, "free places", free, ok, []int64{0, 2, 4})
	free, ok = impl.FreePlaces(meshOf(3), nil)
	wantOk(t, "places without holds", free, ok, []int64{0, 1, 2})
	free, ok = impl.FreePlaces(impl.Mesh{}, nil)
	wantOk(t, "no places", free, ok, nil)
}

func TestHoldsThatAreNoneOfTheMeshFail(t *testing.T) {
	for i, h := range invalidHeld() {
		left, ok := impl.HoldForces(h.m, h.holds, make([]impl.Vector, len(h.m.Places)))
		wantNone(t, named("left by invalid holds", i), left, ok)
		held, ok := impl.HoldMesh(h.m, h.holds)
		wantNone(t, named("invalid held mesh", i), held, ok)
		off, ok := impl.OffHolds(h.m, h.holds)
		wantNoSum(t, named("off invalid holds", i), off, ok)
		free, ok := impl.FreePlaces(h.m, h.holds)
		wantNone(t, named("free of invalid holds", i), free, ok)
	}
}

func TestHoldBorder(t *testing.T) {
	z := num(minusZ)
	m := impl.Mesh{
		Places:    []impl.Vector{vec(num(nan), 0, 0), vec(1, z, 2), vec(0, 3, 0), vec(num(1), 1e38, -4), vec(num(inf), 5, 5)},
		Triangles: [][]int64{tri(3, 1, 2)},
	}
	holds, ok := impl.HoldBorder(m)
	wantOk(t, "holds of a triangle", holds, ok, []impl.Hold{fixedAt(1, vec(1, z, 2)), fixedAt(2, vec(0, 3, 0)), fixedAt(3, vec(num(1), 1e38, -4))})
	grid, _ := impl.GridMesh(2, 2, 1)
	holds, ok = impl.HoldBorder(grid)
	want(t, "free places of a grid", first(impl.FreePlaces(grid, holds)), []int64{4})
	// The place in the middle is not held, so it may be anywhere.
	grid.Places[4] = vec(num(nan), num(inf), 0)
	again, ok := impl.HoldBorder(grid)
	wantOk(t, "holds of a grid", again, ok, holds)
	for place := range grid.Places {
		for _, x := range nums(inf, negInf, nan) {
			for _, v := range []impl.Vector{vec(x, 0, 0), vec(0, x, 0), vec(0, 0, x)} {
				odd := spare(grid)
				odd.Places[place] = v
				holds, ok := impl.HoldBorder(odd)
				if place != 4 {
					wantNone(t, told("holds of a border with", v), holds, ok)
				} else {
					wantOk(t, told("holds of a border around", v), holds, ok, again)
				}
			}
		}
	}
	for i, m := range []impl.Mesh{{}, meshOf(64), meshOf(3, repeat(tri(0, 1, 2), 2)...), closedMeshes()[0], closedMeshes()[3]} {
		holds, ok := impl.HoldBorder(m)
		wantOk(t, named("holds without a border", i), holds, ok, nil)
	}
	for i, m := range invalidMeshes() {
		holds, ok := impl.HoldBorder(m)
		wantNone(t, named("holds of the invalid mesh", i), holds, ok)
	}
}

// TestBordersAreHeldWhereTheyAre compares with the edges that are counted pair by pair.
func TestBordersAreHeldWhereTheyAre(t *testing.T) {
	for i, m := range oddMeshes() {
		edges, at := countedEdges(m)
		var expected []impl.Hold
		finite := true
		for place := range int64(len(m.Places)) {
			border := false
			for j, e := range edges {
				border = border || len(at[j]) == 1 && holds(e, place)
			}
			if border {
				h := impl.Hold{Place: place, At: m.Places[place]}
				finite = finite && h.At.X-h.At.X == 0 && h.At.Y-h.At.Y == 0 && h.At.Z-h.At.Z == 0
				expected = append(expected, h)
			}
		}
		got, ok := impl.HoldBorder(m)
		if !finite {
			wantNone(t, named("border of mesh", i), got, ok)
			continue
		}
		wantOk(t, named("border of mesh", i), got, ok, expected)
		want(t, named("holds of mesh", i), impl.AreHolds(m, got), true)
		held, ok := impl.HoldMesh(m, got)
		wantMesh(t, named("held mesh", i), held, ok, m.Places, m.Triangles)
		off, ok := impl.OffHolds(m, got)
		wantSum(t, named("off the border", i), off, ok, 0)
	}
}
