package tests

import (
	"fmt"
	"math"
	"testing"

	"loop.example/g01222/impl"
)

// wantNoJoin asks that an edge can be joined from neither end.
func wantNoJoin(t *testing.T, what string, m impl.Mesh, a, b int64) {
	t.Helper()
	for range 2 {
		want(t, told(what, a, b), impl.CanJoin(m, a, b), false)
		joined, ok := impl.JoinEdge(m, a, b)
		wantNone(t, told(what, a, b), joined, ok)
		a, b = b, a
	}
}

// without returns the places of meshOf but one.
func without(places int, place int) []impl.Vector {
	list := meshOf(places).Places
	return append(list[:place:place], list[place+1:]...)
}

func TestJoinEdge(t *testing.T) {
	// The places 2 and 6 are in no triangle.
	m := meshOf(9, tri(3, 1, 5), tri(5, 4, 3), tri(7, 3, 4), tri(8, 5, 1), tri(0, 8, 1))
	cases := []struct {
		a, b      int64
		triangles [][]int64
	}{
		{3, 5, [][]int64{{6, 3, 4}, {7, 3, 1}, {0, 7, 1}}},
		{5, 3, [][]int64{{6, 4, 3}, {7, 4, 1}, {0, 7, 1}}},
		{7, 3, [][]int64{{6, 1, 4}, {4, 3, 6}, {7, 4, 1}, {0, 7, 1}}},
		{3, 7, [][]int64{{3, 1, 5}, {5, 4, 3}, {7, 5, 1}, {0, 7, 1}}},
		{8, 0, [][]int64{{2, 0, 4}, {4, 3, 2}, {6, 2, 3}, {7, 4, 0}}},
		{0, 8, [][]int64{{3, 1, 5}, {5, 4, 3}, {7, 3, 4}, {0, 5, 1}}},
		{1, 0, [][]int64{{2, 0, 4}, {4, 3, 2}, {6, 2, 3}, {7, 4, 0}}},
		// This leaves out two triangles, and with the second one the place 0 loses its last one.
		{8, 1, [][]int64{{2, 7, 4}, {4, 3, 2}, {6, 2, 3}}},
	}
	for _, c := range cases {
		what := told("join", c.a, c.b)
		joined, ok := impl.JoinEdge(m, c.a, c.b)
		wantMesh(t, what, joined, ok, without(9, int(c.b)), c.triangles)
		want(t, "can "+what, impl.CanJoin(m, c.a, c.b), true)
		wantKept(t, what, m, joined)
	}
}

func TestJoinsThatChangeTheNumberOfEuler(t *testing.T) {
	ring, _ := impl.RingMesh(3, 2, 1, 1)
	cases := map[string]struct {
		m    impl.Mesh
		a, b int64
	}{
		"a triangle alone":            {meshOf(6, tri(5, 0, 3), tri(4, 1, 2)), 0, 3},
		"the other one":               {meshOf(6, tri(5, 0, 3), tri(4, 1, 2)), 2, 1},
		"the first row of a ring":     {ring, 0, 1},
		"the last row of a ring":      {ring, 8, 6},
		"a row inside of a ring":      {ring, 4, 5},
		"a hole of three sides":       {meshOf(6, tri(0, 3, 4), tri(0, 4, 1), tri(1, 4, 5), tri(1, 5, 2), tri(2, 5, 3), tri(2, 3, 0)), 3, 4},
		"neither sheet nor number":    {meshOf(5, tri(1, 2, 4), tri(3, 2, 0), tri(4, 3, 0)), 0, 2},
		"a triangle on the only side": {meshOf(4, tri(1, 0, 2), tri(1, 3, 0), tri(3, 2, 0)), 1, 2},
	}
	for what, c := range cases {
		left := slowMerge(c.m, c.a, c.b)
		if len(left.Triangles) == 0 || countedEuler(left) == countedEuler(c.m) {
			t.Errorf("%s has the wrong form", what)
		}
		wantNoJoin(t, what, c.m, c.a, c.b)
	}
	// A ring of more sides can be joined.
	wide, _ := impl.RingMesh(4, 2, 1, 1)
	joined, ok := impl.JoinEdge(wide, 0, 1)
	if !ok {
		t.Error("a ring of four sides cannot be joined")
	}
	wantKept(t, "a ring of four sides", wide, joined)
}

// TestJoinsThatWouldBeNoSheets joins an edge of two triangles with the same places, so that other ones then go along one edge in the same
// direction. Nothing else is wrong with these.
func TestJoinsThatWouldBeNoSheets(t *testing.T) {
	for i, others := range [][][]int64{
		{tri(0, 2, 5), tri(0, 1, 3)}, {tri(5, 0, 2), tri(1, 3, 0)}, {tri(2, 0, 5), tri(3, 1, 0)},
		{tri(0, 1, 3), tri(1, 0, 6), tri(2, 0, 5)},
	} {
		m := meshOf(7, append(others, tri(1, 2, 4), tri(2, 1, 4))...)
		left := slowMerge(m, 1, 2)
		if slowTwins(left) || countedSheet(left) || countedEuler(left) != countedEuler(m) {
			t.Errorf("case %d has the wrong form", i)
		}
		wantNoJoin(t, named("case", i), m, 1, 2)
	}
	turned := meshOf(6, tri(0, 2, 5), tri(1, 0, 3), tri(1, 2, 4), tri(2, 1, 4))
	joined, ok := impl.JoinEdge(turned, 1, 2)
	wantMesh(t, "the other direction", joined, ok, without(6, 2), [][]int64{{0, 1, 4}, {1, 0, 2}})
}

func TestJoinsWithTwoTrianglesOfTheSamePlaces(t *testing.T) {
	whole := tetrahedron()
	for a := range int64(4) {
		for b := range a {
			left := slowMerge(whole, a, b)
			if !countedSheet(left) || countedEuler(left) != countedEuler(whole) {
				t.Errorf("the tetrahedron joined at %d %d has the wrong form", a, b)
			}
			wantNoJoin(t, "tetrahedron", whole, a, b)
		}
	}
	// Both triangles may be anywhere, and may have been there before.
	grid, _ := impl.GridMesh(2, 1, 1)
	want(t, "can a grid be joined", impl.CanJoin(grid, 0, 1), true)
	both, _ := impl.JoinMeshes(grid, pillow())
	edges, _ := countedEdges(both)
	for _, e := range edges {
		wantNoJoin(t, "beside a pillow", both, e[0], e[1])
	}
	// Without its own edge, a pillow is no hindrance; but this changes the number of Euler.
	two, _ := impl.JoinMeshes(pillow(), grid)
	wantNoJoin(t, "a pillow", two, 0, 1)
}

func TestJoinsThatLeaveNoTriangle(t *testing.T) {
	wantNoJoin(t, "one triangle", meshOf(3, tri(2, 1, 0)), 0, 1)
	wantNoJoin(t, "one triangle", meshOf(9, tri(2, 7, 5)), 7, 2)
	wantNoJoin(t, "a pillow", pillow(), 1, 2)
	wantNoJoin(t, "two triangles", meshOf(4, tri(0, 1, 2), tri(1, 0, 3)), 0, 1)
	joined, ok := impl.JoinEdge(meshOf(4, tri(0, 1, 2), tri(1, 0, 3)), 2, 1)
	wantMesh(t, "one that is left", joined, ok, without(4, 1), [][]int64{{1, 0, 2}})
}

func TestJoinsNeedEdges(t *testing.T) {
	m := meshOf(9, tri(0, 1, 2), tri(2, 1, 3), tri(3, 1, 4), tri(5, 6, 7))
	for a := range int64(9) {
		for b := range int64(9) {
			if !isPair(m, a, b) {
				wantNoJoin(t, "no edge", m, a, b)
			}
		}
	}
	want(t, "can an edge be joined", impl.CanJoin(m, 0, 1), true)
	wantNoJoin(t, "places apart", meshOf(6, tri(0, 1, 2), tri(3, 4, 5)), 0, 3)
	// The triangles would stay the same.
	wantNoJoin(t, "places of none", meshOf(8, tri(0, 1, 2)), 6, 7)
	wantNoJoin(t, "one of none", meshOf(8, tri(0, 1, 2), tri(0, 2, 3)), 1, 7)
	for _, place := range []int64{-1, 9, 10, 64, 256, 1 << 32, 1<<32 + 2, math.MinInt64, math.MaxInt64} {
		wantNoJoin(t, "no place", m, 0, place)
		wantNoJoin(t, "no places", m, place, place)
	}
	wantNoJoin(t, "empty", impl.Mesh{}, 0, 1)
}

func TestJoinsNeedSheets(t *testing.T) {
	good := [][]int64{tri(0, 1, 2), tri(2, 1, 3)}
	want(t, "can it be joined", impl.CanJoin(meshOf(9, good...), 0, 1), true)
	for i, others := range [][][]int64{
		{tri(4, 5, 6), tri(4, 5, 7)}, {tri(4, 5, 6), tri(5, 4, 7), tri(5, 4, 8)},
		// The join would make a sheet of these.
		{tri(0, 1, 8)}, {tri(4, 0, 1)},
	} {
		wantNoJoin(t, named("no sheet", i), meshOf(9, append(good, others...)...), 0, 1)
	}
	for i, m := range noSheets() {
		edges, _ := countedEdges(m)
		for _, e := range edges[:min(9, len(edges))] {
			wantNoJoin(t, named("edge of no sheet", i), m, e[0], e[1])
		}
	}
	for i, m := range invalidMeshes() {
		wantNoJoin(t, named("invalid mesh", i), m, 0, 1)
	}
}

func TestJoinsAreThoseOfTheText(t *testing.T) {
	joins := 0
	for i, m := range sheets() {
		for _, pair := range triedPairs(m) {
			a, b := pair[0], pair[1]
			what := told("sheet", i, "join", a, b)
			expected, there := slowJoin(m, a, b)
			want(t, "can "+what, impl.CanJoin(m, a, b), there)
			joined, ok := impl.JoinEdge(m, a, b)
			wantChange(t, what, joined, ok, expected, there)
			if there {
				joins++
				wantKept(t, what, m, joined)
			}
		}
	}
	if joins < 500 {
		t.Errorf("only %d joins", joins)
	}
}

func TestDropPlaces(t *testing.T) {
	dropped, ok := impl.DropPlaces(meshOf(9, tri(7, 1, 4), tri(4, 1, 2)))
	places := meshOf(9).Places
	wantMesh(t, "dropped", dropped, ok, []impl.Vector{places[1], places[2], places[4], places[7]}, [][]int64{{3, 0, 2}, {2, 0, 1}})
	dropped, ok = impl.DropPlaces(meshOf(64))
	wantMesh(t, "without triangles", dropped, ok, nil, nil)
	for i, m := range oddMeshes() {
		what := named("mesh", i)
		indices := map[int64]int64{}
		var left []impl.Vector
		for place := range int64(len(m.Places)) {
			if len(countedAt(m, place, place)) > 0 {
				indices[place] = int64(len(left))
				left = append(left, m.Places[place])
			}
		}
		var triangles [][]int64
		for _, c := range m.Triangles {
			triangles = append(triangles, tri(indices[c[0]], indices[c[1]], indices[c[2]]))
		}
		dropped, ok := impl.DropPlaces(m)
		wantMesh(t, what, dropped, ok, left, triangles)
		again, ok := impl.DropPlaces(dropped)
		wantMesh(t, what+" again", again, ok, left, triangles)
	}
	for i, m := range invalidMeshes() {
		dropped, ok := impl.DropPlaces(m)
		wantNone(t, named("invalid mesh", i), dropped, ok)
	}
}

func TestCutHole(t *testing.T) {
	hole, ok := impl.CutHole(meshOf(6, tri(0, 1, 2), tri(3, 4, 5), tri(1, 0, 3)), 1)
	wantMesh(t, "hole", hole, ok, meshOf(6).Places, [][]int64{{0, 1, 2}, {1, 0, 3}})
	for i, m := range validMeshes() {
		for at := range m.Triangles {
			hole, ok := impl.CutHole(m, int64(at))
			expected := append(append([][]int64{}, m.Triangles[:at]...), m.Triangles[at+1:]...)
			wantMesh(t, told("mesh", i, "without", at), hole, ok, m.Places, expected)
		}
		count := int64(len(m.Triangles))
		for _, at := range []int64{-1, count, count + 1, 128, 256, 1 << 32, math.MinInt64, math.MaxInt64} {
			hole, ok := impl.CutHole(m, at)
			wantNone(t, told("mesh", i, "without", at), hole, ok)
		}
	}
	for i, m := range invalidMeshes() {
		hole, ok := impl.CutHole(m, 0)
		wantNone(t, named("invalid mesh", i), hole, ok)
	}
	box, _ := impl.BoxMesh(1)
	open, _ := impl.CutHole(box, 5)
	want(t, "is a box with a hole closed", impl.IsClosed(open), false)
	wantEuler(t, "box with a hole", open, true, 1)
}

func TestSameForm(t *testing.T) {
	meshes := append(validMeshes(), invalidMeshes()...)
	for i, a := range meshes {
		for j, b := range meshes {
			same := impl.ValidMesh(a) && impl.ValidMesh(b) && len(a.Places) == len(b.Places) && fmt.Sprint(a.Triangles) == fmt.Sprint(b.Triangles)
			want(t, told("meshes", i, j), impl.SameForm(a, b), same)
		}
	}
	a := meshOf(4, tri(0, 1, 2), tri(1, 0, 3))
	moved := meshOf(4, tri(0, 1, 2), tri(1, 0, 3))
	moved.Places[2] = vec(num(nan), 7, num(minusZ))
	cases := map[string]struct {
		m    impl.Mesh
		same bool
	}{
		"itself":            {a, true},
		"other places":      {moved, true},
		"one place more":    {meshOf(5, tri(0, 1, 2), tri(1, 0, 3)), false},
		"another order":     {meshOf(4, tri(1, 0, 3), tri(0, 1, 2)), false},
		"a turned triangle": {meshOf(4, tri(1, 2, 0), tri(1, 0, 3)), false},
		"one triangle less": {meshOf(4, tri(0, 1, 2)), false},
		"one triangle more": {meshOf(4, tri(0, 1, 2), tri(1, 0, 3), tri(0, 1, 2)), false},
		"another triangle":  {meshOf(4, tri(0, 1, 2), tri(1, 2, 3)), false},
	}
	for what, c := range cases {
		want(t, what, impl.SameForm(a, c.m), c.same)
		want(t, what+", turned", impl.SameForm(c.m, a), c.same)
	}
	want(t, "nil and empty", impl.SameForm(impl.Mesh{}, impl.Mesh{Places: []impl.Vector{}, Triangles: [][]int64{}}), true)
	bad := meshOf(4, tri(0, 1, 4))
	want(t, "the same invalid mesh", impl.SameForm(bad, bad), false)
	want(t, "the same mesh with too many places", impl.SameForm(meshOf(65), meshOf(65)), false)
}
