package tests

import (
	"math"
	"testing"

	"loop.example/g01222/impl"
)

// wantNoSplit asks that an edge can be split from neither end.
func wantNoSplit(t *testing.T, what string, m impl.Mesh, a, b int64, share float32) {
	t.Helper()
	split, ok := impl.SplitEdge(m, a, b, share)
	wantNone(t, told(what, a, b, share), split, ok)
	split, ok = impl.SplitEdge(m, b, a, share)
	wantNone(t, told(what, b, a, share), split, ok)
}

func TestSplitEdge(t *testing.T) {
	// The edge 1 4 stands at another position in each triangle, and the first one goes from 4 to 1.
	for i, c := range [][][]int64{
		{tri(4, 1, 0), tri(1, 4, 2)}, {tri(1, 0, 4), tri(4, 2, 1)}, {tri(0, 4, 1), tri(2, 1, 4)},
	} {
		m := meshOf(7, c[0], tri(0, 1, 3), c[1], tri(5, 2, 4))
		expected := [][]int64{{4, 7, 0}, {0, 1, 3}, {1, 7, 2}, {5, 2, 4}, {7, 1, 0}, {7, 4, 2}}
		split, ok := impl.SplitEdge(m, 1, 4, 0.25)
		wantMesh(t, named("1 4, turn", i), split, ok, append(meshOf(7).Places, vec(1.75, 4.75, 16.75)), expected)
		split, ok = impl.SplitEdge(m, 4, 1, 0.25)
		wantMesh(t, named("4 1, turn", i), split, ok, append(meshOf(7).Places, vec(3.25, 12.25, 48.25)), expected)
	}
	one := meshOf(5, tri(3, 4, 1))
	split, ok := impl.SplitEdge(one, 1, 4, 0.5)
	wantMesh(t, "an edge of one triangle", split, ok, append(meshOf(5).Places, vec(2.5, 8.5, 32.5)), [][]int64{{4, 5, 3}, {5, 1, 3}})
	split, ok = impl.SplitEdge(one, 3, 4, 0.5)
	wantMesh(t, "another one", split, ok, append(meshOf(5).Places, vec(3.5, 12.5, 45.5)), [][]int64{{3, 5, 1}, {5, 4, 1}})
}

func TestSplitsToTheLastBit(t *testing.T) {
	m := mixedBody().Mesh
	expected := [][]int64{{1, 6, 0}, {2, 3, 0}, {2, 6, 4}, {6, 2, 0}, {6, 1, 4}}
	for _, c := range []struct {
		a, b  int64
		share float32
		bits  []uint32
	}{
		{2, 1, 0.3, []uint32{0x3f6147ae, 0x3f9ae148, 0xbe8a3d71}},
		{1, 2, 0.3, []uint32{0x3f8f5c29, 0x3e947ae1, 0x3e2e147a}},
		{2, 1, 0.5, []uint32{0x3f800000, 0x3f400000, 0xbd4cccd0}},
		// Near 1 and 0, it may be nearer to its ends than by the share, or at them.
		{2, 1, num(0x3f7fffff), []uint32{0x3fa66666, 0xbeccccc4, 0x3efffffc}},
		{1, 2, num(0x3f7fffff), []uint32{0x3f333334, 0x3ff33331, 0xbf199998}},
		{2, 1, num(1), []uint32{0x3f333333, 0x3ff33333, 0xbf19999a}},
		{1, 2, num(1), []uint32{0x3fa66666, 0xbecccccd, 0x3f000000}},
	} {
		// The second triangle of the mixed mesh begins at 2, and goes along the edge 2 0 at last.
		m.Triangles[1] = tri(2, 3, 0)
		split, ok := impl.SplitEdge(m, c.a, c.b, c.share)
		wantMesh(t, told(c.a, c.b, c.share), split, ok, append(m.Places[:6:6], vectorsOfBits(c.bits...)[0]), expected)
	}
}

func TestSplitsOfOddPlaces(t *testing.T) {
	m := meshOf(3, tri(0, 1, 2))
	for _, c := range []struct{ a, b, middle impl.Vector }{
		{vec(num(minusZ), num(minusZ), 0), vec(num(minusZ), 0, num(minusZ)), vec(0, 0, 0)},
		{vec(1e8, 1, num(inf)), vec(1, 1e8, 0), vec(50000000, 50000000, num(nan))},
		{vec(math.MaxFloat32, num(nan), 0), vec(-math.MaxFloat32, 0, num(inf)), vec(num(negInf), num(nan), num(inf))},
		{vec(num(1), 0, num(3)), vec(0, num(1), num(2)), vec(num(1), 0, num(3))},
	} {
		m.Places[1], m.Places[0] = c.a, c.b
		split, ok := impl.SplitEdge(m, 1, 0, 0.5)
		wantMesh(t, told("between", c.a, c.b), split, ok, append(m.Places[:3:3], c.middle), [][]int64{{0, 3, 2}, {3, 1, 2}})
	}
}

func TestSharesAreBetweenNothingAndAll(t *testing.T) {
	m := meshOf(4, tri(0, 1, 2), tri(2, 1, 3))
	for _, share := range badShares() {
		wantNoSplit(t, "bad share", m, 0, 1, share)
		wantNoSplit(t, "bad share", m, 1, 2, share)
	}
	for _, share := range append(nums(1, 0x00800000, 0x3f7fffff), 0.1, 0.5, 0.999) {
		split, ok := impl.SplitEdge(m, 1, 2, share)
		expected, _ := slowSplit(m, 1, 2, share)
		wantChange(t, told("share", share), split, ok, expected, true)
	}
}

func TestSplitsNeedEdges(t *testing.T) {
	m := meshOf(7, tri(0, 1, 2), tri(2, 3, 0), tri(4, 5, 0))
	for a := range int64(7) {
		for b := range int64(7) {
			split, ok := impl.SplitEdge(m, a, b, 0.5)
			expected, there := slowSplit(m, a, b, 0.5)
			want(t, told("is it an edge", a, b), there, isPair(m, a, b))
			wantChange(t, told("split", a, b), split, ok, expected, there)
		}
	}
	for _, place := range []int64{-1, 7, 8, 64, 256, 1 << 32, 1<<32 + 2, math.MinInt64, math.MaxInt64} {
		wantNoSplit(t, "no place", m, 0, place, 0.5)
		wantNoSplit(t, "no places", m, place, place, 0.5)
	}
	wantNoSplit(t, "empty", impl.Mesh{}, 0, 1, 0.5)
}

func TestSplitsNeedSheets(t *testing.T) {
	for i, others := range [][][]int64{
		{tri(4, 5, 6), tri(4, 5, 7)}, {tri(4, 5, 6), tri(5, 4, 7), tri(5, 4, 8)}, {tri(0, 1, 8)},
	} {
		wantNoSplit(t, named("no sheet", i), meshOf(9, append(others, tri(0, 1, 2), tri(2, 3, 0))...), 0, 2, 0.5)
	}
	for i, m := range noSheets() {
		edges, _ := countedEdges(m)
		for _, e := range edges[:min(9, len(edges))] {
			wantNoSplit(t, named("edge of no sheet", i), m, e[0], e[1], 0.5)
		}
	}
	for i, m := range invalidMeshes() {
		wantNoSplit(t, named("invalid mesh", i), m, 0, 1, 0.5)
	}
}

// TestSplitsThatWouldBeNoSheets splits the edges of both sides of a triangle: the new edge to the third place would have four triangles.
func TestSplitsThatWouldBeNoSheets(t *testing.T) {
	m := meshOf(5, tri(3, 4, 0), tri(2, 1, 0), tri(1, 2, 0))
	for a := range int64(3) {
		for b := range a {
			wantNoSplit(t, "pillow", pillow(), a, b, 0.5)
			wantNoSplit(t, "pillow with a triangle", m, a, b, 0.5)
		}
	}
	split, ok := impl.SplitEdge(m, 3, 4, 0.5)
	wantMesh(t, "beside a pillow", split, ok, append(meshOf(5).Places, vec(3.5, 12.5, 45.5)), [][]int64{{3, 5, 0}, {2, 1, 0}, {1, 2, 0}, {5, 4, 0}})
}

// edgeOfSome returns an edge that so many triangles with different third places have.
func edgeOfSome(m impl.Mesh, triangles int) (a, b int64) {
	edges, at := countedEdges(m)
	for i, list := range at {
		a, b = edges[i][0], edges[i][1]
		if len(list) == triangles && thirdOf(m.Triangles[list[0]], a, b) != thirdOf(m.Triangles[list[len(list)-1]], a, b) == (triangles == 2) {
			return a, b
		}
	}
	panic("no such edge")
}

func TestSplitMeshesMayReachTheLimits(t *testing.T) {
	d := dice(14)
	for _, places := range []int{62, 63, 64} {
		for _, triangles := range []int{1, 50, 125, 126, 127, 128} {
			m := d.sheet(places, triangles, d.number)
			want(t, "triangles", len(m.Triangles), triangles)
			for _, count := range []int{1, 2} {
				if triangles < count {
					continue
				}
				a, b := edgeOfSome(m, count)
				split, ok := impl.SplitEdge(m, a, b, 0.5)
				what := told(places, "places", triangles, "triangles, edge of", count)
				want(t, what, ok, places < 64 && triangles+count <= 128)
				expected, there := slowSplit(m, a, b, 0.5)
				wantChange(t, what, split, ok, expected, there)
			}
		}
	}
}

func TestSplitsAreThoseOfTheText(t *testing.T) {
	shares := append(nums(1, 0x3f7fffff), 0.5, 0.3, 0.25, 0.9, 1, 0, num(nan))
	splits := 0
	for i, m := range sheets() {
		for j, pair := range triedPairs(m) {
			a, b, share := pair[0], pair[1], shares[(i+j)%len(shares)]
			expected, there := slowSplit(m, a, b, share)
			split, ok := impl.SplitEdge(m, a, b, share)
			wantChange(t, told("sheet", i, "split", a, b, share), split, ok, expected, there)
			if there {
				splits++
			}
		}
	}
	if splits < 1000 {
		t.Errorf("only %d splits", splits)
	}
}

// TestSplitsAreUndoneByJoins joins the new place with either end of the edge. No join of a mesh with two equal triangles is allowed.
func TestSplitsAreUndoneByJoins(t *testing.T) {
	undone := 0
	for i, m := range sheets() {
		for _, pair := range triedPairs(m) {
			a, b := pair[0], pair[1]
			split, ok := impl.SplitEdge(m, a, b, 0.3)
			if !ok {
				continue
			}
			what := told("sheet", i, "split", a, b)
			wantKept(t, what, m, split)
			e := int64(len(m.Places))
			for _, end := range []int64{a, b} {
				can := impl.CanJoin(split, end, e)
				back, ok := impl.JoinEdge(split, end, e)
				want(t, what+" can be joined", can, ok)
				if slowTwins(m) {
					wantNone(t, what+" with equal triangles", back, ok)
					continue
				}
				undone++
				wantTurned(t, told(what, "and joined", end), back, ok, m)
			}
		}
	}
	if undone < 2000 {
		t.Errorf("only %d splits are undone", undone)
	}
}
