package tests

import (
	"math"
	"testing"

	"loop.example/g01222/impl"
)

// wantNoFlip asks that an edge can be flipped from neither end.
func wantNoFlip(t *testing.T, what string, m impl.Mesh, a, b int64) {
	t.Helper()
	for range 2 {
		want(t, told(what, a, b), impl.CanFlip(m, a, b), false)
		flipped, ok := impl.FlipEdge(m, a, b)
		wantNone(t, told(what, a, b), flipped, ok)
		gain, ok := impl.FlipGain(m, a, b)
		wantNoSum(t, told("gain of", what, a, b), gain, ok)
		a, b = b, a
	}
}

func TestFlipEdge(t *testing.T) {
	// The edge 1 4 stands at another position in each triangle, and the second one goes from 1 to 4.
	outer := [][]int64{tri(0, 1, 3), tri(5, 2, 4)}
	turns := [][][]int64{
		{tri(4, 1, 0), tri(1, 4, 2)}, {tri(1, 0, 4), tri(4, 2, 1)}, {tri(0, 4, 1), tri(2, 1, 4)},
	}
	for i, c := range turns {
		m := meshOf(7, c[0], outer[0], c[1], outer[1])
		flipped, ok := impl.FlipEdge(m, 1, 4)
		wantMesh(t, named("1 4, turn", i), flipped, ok, m.Places, [][]int64{{0, 4, 2}, {0, 1, 3}, {1, 0, 2}, {5, 2, 4}})
		flipped, ok = impl.FlipEdge(m, 4, 1)
		wantMesh(t, named("4 1, turn", i), flipped, ok, m.Places, [][]int64{{4, 2, 0}, {0, 1, 3}, {2, 1, 0}, {5, 2, 4}})
		want(t, "can 1 4 be flipped", impl.CanFlip(m, 1, 4), true)
		want(t, "can 4 1 be flipped", impl.CanFlip(m, 4, 1), true)
	}
}

func TestFlipsThatWouldMakeAnEdgeTwice(t *testing.T) {
	whole := tetrahedron()
	for a := range int64(4) {
		for b := range a {
			wantNoFlip(t, "tetrahedron", whole, a, b)
		}
	}
	// Three triangles around a place: the third places of each edge there have the border between them.
	corner := meshOf(4, tri(0, 1, 2), tri(0, 2, 3), tri(0, 3, 1))
	for b := range int64(4) {
		wantNoFlip(t, "corner", corner, 0, b)
	}
	// The edge between the third places is far away, in one triangle or in two, and goes either way.
	pair := [][]int64{tri(0, 1, 2), tri(1, 0, 3)}
	for i, others := range [][][]int64{
		{tri(2, 3, 4)}, {tri(3, 2, 4)}, {tri(4, 2, 3)}, {tri(2, 4, 3)}, {tri(2, 3, 4), tri(3, 2, 5)}, {tri(4, 5, 6), tri(5, 3, 2)},
	} {
		wantNoFlip(t, named("far edge", i), meshOf(7, append(pair, others...)...), 0, 1)
	}
	// Without this edge, it can be flipped, though the third places are neighbours of the same place.
	near := meshOf(7, append(pair, tri(2, 4, 5), tri(3, 4, 6))...)
	want(t, "near third places", impl.CanFlip(near, 0, 1), true)
	want(t, "third places alone", impl.CanFlip(meshOf(7, pair...), 1, 0), true)
}

func TestFlipsOfEqualThirdPlaces(t *testing.T) {
	more := meshOf(5, tri(3, 4, 0), tri(2, 1, 0), tri(1, 2, 0))
	for a := range int64(3) {
		for b := range a {
			wantNoFlip(t, "pillow", pillow(), a, b)
			wantNoFlip(t, "pillow with a triangle", more, a, b)
		}
	}
}

func TestFlipsOfEdgesOfOneTriangleAndOfNone(t *testing.T) {
	m := meshOf(7, tri(0, 1, 2), tri(2, 3, 0), tri(4, 5, 0))
	for a := range int64(7) {
		for b := range int64(7) {
			if a != 0 && b != 0 || a != 2 && b != 2 {
				wantNoFlip(t, "no inner edge", m, a, b)
			}
		}
	}
	want(t, "the inner edge", impl.CanFlip(m, 0, 2), true)
	for _, place := range []int64{-1, 7, 8, 64, 256, 1 << 32, 1<<32 + 2, math.MinInt64, math.MaxInt64} {
		wantNoFlip(t, "no place", m, 0, place)
		wantNoFlip(t, "no places", m, place, place)
	}
	wantNoFlip(t, "empty", impl.Mesh{}, 0, 1)
}

func TestFlipsNeedSheets(t *testing.T) {
	// The edge 0 2 alone would be right, but there is an edge in the same direction, or a third triangle, elsewhere.
	good := [][]int64{tri(0, 1, 2), tri(2, 3, 0)}
	want(t, "can it be flipped", impl.CanFlip(meshOf(9, good...), 0, 2), true)
	for i, others := range [][][]int64{
		{tri(4, 5, 6), tri(4, 5, 7)}, {tri(4, 5, 6), tri(5, 4, 7), tri(5, 4, 8)}, {tri(0, 1, 8)}, {tri(4, 5, 6), tri(4, 5, 6)},
	} {
		wantNoFlip(t, named("no sheet", i), meshOf(9, append(good, others...)...), 0, 2)
	}
	for i, m := range noSheets() {
		edges, _ := countedEdges(m)
		for _, e := range edges[:min(9, len(edges))] {
			wantNoFlip(t, named("edge of no sheet", i), m, e[0], e[1])
		}
		best, gain, ok := impl.BestFlip(m)
		wantEdge(t, named("best flip of no sheet", i), best, gain, ok, found{})
	}
	for i, m := range invalidMeshes() {
		wantNoFlip(t, named("invalid mesh", i), m, 0, 1)
		wantNoFlip(t, named("invalid mesh", i), m, 1, 2)
	}
}

func TestFlipsAreThoseOfTheText(t *testing.T) {
	flips := 0
	for i, m := range sheets() {
		for _, pair := range triedPairs(m) {
			a, b := pair[0], pair[1]
			what := told("sheet", i, "edge", a, b)
			expected, there := slowFlip(m, a, b)
			want(t, "can flip "+what, impl.CanFlip(m, a, b), there)
			flipped, ok := impl.FlipEdge(m, a, b)
			wantChange(t, "flip of "+what, flipped, ok, expected, there)
			if !there {
				wantNoFlip(t, what, m, a, b)
				continue
			}
			flips++
			gain, _ := slowGain(m, a, b)
			got, ok := impl.FlipGain(m, a, b)
			wantSum(t, "gain of "+what, got, ok, float32(gain))
		}
	}
	if flips < 400 {
		t.Errorf("only %d flips", flips)
	}
}

// TestFlipsKeepTheNumberOfEuler also flips the new edge, which brings the old one back.
func TestFlipsKeepTheNumberOfEuler(t *testing.T) {
	for i, m := range sheets() {
		for _, pair := range triedPairs(m) {
			a, b := pair[0], pair[1]
			flipped, ok := impl.FlipEdge(m, a, b)
			if !ok {
				continue
			}
			what := told("sheet", i, "flipped at", a, b)
			wantKept(t, what, m, flipped)
			want(t, what+", still an edge", isPair(flipped, a, b), false)
			_, c, _ := slowGoing(m, a, b)
			_, d, _ := slowGoing(m, b, a)
			want(t, what+", triangles at the new edge", len(countedAt(flipped, c, d)), 2)
			back, ok := impl.FlipEdge(flipped, c, d)
			wantTurned(t, what+" and back", back, ok, m)
			gain, _ := impl.FlipGain(m, a, b)
			loss, ok := impl.FlipGain(flipped, d, c)
			wantSum(t, what+", gain back", loss+0, ok, 0-gain)
		}
	}
}

func TestFlipGain(t *testing.T) {
	// The edge 0 1 is between the places at -left and left, the third ones are at -up and up.
	cross := func(left, up float32) impl.Mesh {
		return impl.Mesh{
			Places:    []impl.Vector{vec(-left, 0, 0), vec(left, 0, 0), vec(0, up, 0), vec(0, -up, 0)},
			Triangles: [][]int64{tri(0, 1, 2), tri(1, 0, 3)},
		}
	}
	for _, c := range []struct{ left, up, gain float32 }{
		{1, 1, 0}, {2, 1, 2}, {1, 2, -2}, {0.1, 0.3, num(0xbeccccce)}, {0, 0, 0}, {0, 1, -2},
		{num(inf), 1, num(inf)}, {1, num(inf), num(negInf)}, {num(inf), num(inf), num(nan)}, {1e30, 1e30, num(nan)},
		{num(nan), 1, num(nan)}, {1, num(nan), num(nan)}, {1e-30, 1, -2}, {16777216, 0.5, 33554432}, {8388608, 0.5, 16777215},
	} {
		m := cross(c.left, c.up)
		gain, ok := impl.FlipGain(m, 0, 1)
		wantSum(t, told("gain of", c.left, c.up), gain, ok, c.gain)
		gain, ok = impl.FlipGain(m, 1, 0)
		wantSum(t, told("gain back of", c.left, c.up), gain, ok, c.gain)
		best, gain, ok := impl.BestFlip(m)
		// A not-a-number is left out.
		wantEdge(t, told("best flip of", c.left, c.up), best, gain, ok, found{[]int64{0, 1}, float64(c.gain), c.gain == c.gain})
	}
	m := mixedBody().Mesh
	gain, ok := impl.FlipGain(m, 0, 2)
	wantSum(t, "gain of 0 2", gain, ok, num(0xbf32af58))
	gain, ok = impl.FlipGain(m, 2, 1)
	wantSum(t, "gain of 2 1", gain, ok, num(0xbe33b060))
	grid := bentGrid()
	for _, c := range []struct {
		a, b int64
		bits uint32
	}{{0, 4, 0x3fad31ed}, {1, 4, 0xbee6e0a8}, {5, 1, 0xbf03a898}, {3, 4, 0xbcdf3400}, {7, 3, 0xbf959aef}, {4, 5, 0xbfa9d8d2}, {4, 7, 0xbf7b5c28}, {8, 4, 0xbf503e9b}} {
		gain, ok := impl.FlipGain(grid, c.a, c.b)
		wantSum(t, told("gain of", c.a, c.b), gain, ok, num(c.bits))
	}
}

func TestBestFlip(t *testing.T) {
	best, gain, ok := impl.BestFlip(mixedBody().Mesh)
	wantEdge(t, "of the mixed mesh", best, gain, ok, found{[]int64{1, 2}, float64(num(0xbe33b060)), true})
	best, gain, ok = impl.BestFlip(bentGrid())
	wantEdge(t, "of the bent grid", best, gain, ok, found{[]int64{0, 4}, float64(num(0x3fad31ed)), true})
	// Each diagonal of a regular grid has the gain +0, and each inner side a negative one.
	grid, _ := impl.GridMesh(3, 3, 1)
	best, gain, ok = impl.BestFlip(grid)
	wantEdge(t, "of equal gains", best, gain, ok, found{[]int64{0, 5}, 0, true})
	grid.Places[0].Z = num(nan)
	best, gain, ok = impl.BestFlip(grid)
	wantEdge(t, "of equal gains and not-a-numbers", best, gain, ok, found{[]int64{1, 6}, 0, true})
	grid.Places[15].Z = 3
	best, gain, ok = impl.BestFlip(grid)
	wantEdge(t, "of the last one", best, gain, ok, found{[]int64{10, 15}, slowLong(grid, 10, 15) - slowLong(grid, 11, 14), true})
	none := map[string]impl.Mesh{
		"empty": {}, "places": meshOf(64), "one triangle": meshOf(3, tri(0, 1, 2)), "tetrahedron": tetrahedron(), "pillow": pillow(),
	}
	for what, m := range none {
		best, gain, ok := impl.BestFlip(m)
		wantEdge(t, what, best, gain, ok, found{})
	}
	for i, m := range invalidMeshes() {
		best, gain, ok := impl.BestFlip(m)
		wantEdge(t, named("invalid mesh", i), best, gain, ok, found{})
	}
}

func TestBestFlipsAreThoseOfTheText(t *testing.T) {
	for i, m := range sheets() {
		if len(m.Triangles) > 40 {
			continue
		}
		best, gain, ok := impl.BestFlip(m)
		wantEdge(t, named("best flip of sheet", i), best, gain, ok, slowBest(m))
	}
}
