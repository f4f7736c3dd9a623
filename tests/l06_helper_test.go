package tests

import (
	"fmt"
	"math"
	"slices"
	"testing"

	"loop.example/g01222/impl"
)

// sheet makes one with triangles that often have a side in common. It has fewer triangles if no more are found.
func (d *dice) sheet(places, triangles int, number func() float32) impl.Mesh {
	var m impl.Mesh
	for range places {
		m.Places = append(m.Places, vec(number(), number(), number()))
	}
	gone := map[[2]int64]bool{}
	for range 40 * triangles {
		if len(m.Triangles) == triangles {
			break
		}
		a, b, c := int64(d.below(places)), int64(d.below(places)), int64(d.below(places))
		if len(m.Triangles) > 0 && d.below(8) > 0 {
			last, k := m.Triangles[d.below(len(m.Triangles))], d.below(3)
			a, b = last[(k+1)%3], last[k]
		}
		sides := [][2]int64{{a, b}, {b, c}, {c, a}}
		if a == b || b == c || c == a || gone[sides[0]] || gone[sides[1]] || gone[sides[2]] {
			continue
		}
		for _, s := range sides {
			gone[s] = true
		}
		m.Triangles = append(m.Triangles, tri(a, b, c))
	}
	return m
}

// someSheets are small, with edges of one triangle and of two, and triangles that meet in many ways. One in three has few different lengths,
// and one in three numbers of all kinds.
func someSheets(count int) []impl.Mesh {
	d := dice(13)
	odd := oddNumbers()
	numbers := []func() float32{
		d.number,
		func() float32 { return float32(d.below(3)) },
		func() float32 {
			if d.below(6) == 0 {
				return odd[d.below(len(odd))]
			}
			return d.number()
		},
	}
	var list []impl.Mesh
	for i := range count {
		places := 3 + d.below(7)
		list = append(list, d.sheet(places, 1+d.below(2*places), numbers[i%3]))
	}
	return list
}

// sheets are sheets of all kinds and sizes.
func sheets() []impl.Mesh {
	list := append(closedMeshes(), forms()...)
	list = append(list, shaken(forms())...)
	for _, m := range validMeshes() {
		if countedSheet(m) {
			list = append(list, m)
		}
	}
	return append(append(list, mixedBody().Mesh, bentGrid()), someSheets(150)...)
}

// noSheets are valid meshes that are no sheets.
func noSheets() []impl.Mesh {
	var list []impl.Mesh
	for _, m := range append(validMeshes(), openMeshes()...) {
		if !countedSheet(m) {
			list = append(list, m)
		}
	}
	return list
}

// bentGrid is a grid of two rows that is not regular.
func bentGrid() impl.Mesh {
	grid, _ := impl.GridMesh(2, 2, 1)
	grid.Places = []impl.Vector{
		vec(0, 0, 0.3), vec(1.1, 0.2, -0.4), vec(2.3, -0.1, 0.2), vec(0.2, 0.9, 0.1), vec(1.9, 1.7, 0.8),
		vec(2.2, 1.1, -0.3), vec(-0.3, 2.2, 0.4), vec(0.8, 1.8, -0.2), vec(2.1, 2.4, 0.6),
	}
	return grid
}

// tetrahedron has an edge between all of its places.
func tetrahedron() impl.Mesh {
	return meshOf(4, tri(0, 1, 2), tri(0, 2, 3), tri(0, 3, 1), tri(3, 2, 1))
}

// pillow has two triangles with the same three places.
func pillow() impl.Mesh { return meshOf(3, tri(0, 1, 2), tri(1, 0, 2)) }

// triedPairs are pairs of places to try, some of which are edges, and some no places. Of large meshes, they are not all.
func triedPairs(m impl.Mesh) [][2]int64 {
	count := int64(len(m.Places))
	list := [][2]int64{{0, count}, {count, 0}, {-1, 0}, {0, -1}, {math.MinInt64, 1}, {1, math.MaxInt64}, {0, 1 << 32}}
	if count < 12 {
		for a := range count {
			for b := range count {
				list = append(list, [2]int64{a, b})
			}
		}
		return list
	}
	edges, _ := countedEdges(m)
	for i, e := range edges {
		if i%8 == 0 {
			list = append(list, [2]int64{e[0], e[1]}, [2]int64{e[1], e[0]}, [2]int64{e[0], e[0]}, [2]int64{e[0], count - 1 - e[1]})
		}
	}
	return list
}

// isPair reports whether a and b are two places that a triangle has.
func isPair(m impl.Mesh, a, b int64) bool { return a != b && len(countedAt(m, a, b)) > 0 }

func thirdOf(triangle []int64, a, b int64) int64 {
	return triangle[0] + triangle[1] + triangle[2] - a - b
}

// slowGoing finds the triangle of a sheet that goes from a to b, and its third place.
func slowGoing(m impl.Mesh, a, b int64) (triangle int, third int64, found bool) {
	for i, c := range m.Triangles {
		if goesAlong(c, a, b) {
			return i, thirdOf(c, a, b), true
		}
	}
	return 0, 0, false
}

// slowFlip computes a flip from the document's text. Like those below, it tells false where the document asks for a failure.
func slowFlip(m impl.Mesh, a, b int64) (impl.Mesh, bool) {
	there, c, one := slowGoing(m, a, b)
	back, d, two := slowGoing(m, b, a)
	if !one || !two || c == d || isPair(m, c, d) {
		return impl.Mesh{}, false
	}
	m = spare(m)
	m.Triangles[there], m.Triangles[back] = tri(a, d, c), tri(d, b, c)
	return m, true
}

// slowSplit computes a split.
func slowSplit(m impl.Mesh, a, b int64, share float32) (impl.Mesh, bool) {
	if !isPair(m, a, b) || !(share > 0) || !(share < 1) {
		return impl.Mesh{}, false
	}
	at := countedAt(m, a, b)
	e := int64(len(m.Places))
	m = spare(m)
	from, to := pointOf(m.Places[a]), pointOf(m.Places[b])
	m.Places = append(m.Places, vectorOf(from.plus(to.minus(from).times(float64(share)))))
	for _, i := range at {
		start, end, c := a, b, thirdOf(m.Triangles[i], a, b)
		if !goesAlong(m.Triangles[i], a, b) {
			start, end = b, a
		}
		m.Triangles[i] = tri(start, e, c)
		m.Triangles = append(m.Triangles, tri(e, end, c))
	}
	if len(m.Places) > 64 || len(m.Triangles) > 128 || !countedSheet(m) {
		return impl.Mesh{}, false
	}
	return m, true
}

// slowMerge computes what is left when b becomes a, whether it is a sheet or not.
func slowMerge(m impl.Mesh, a, b int64) impl.Mesh {
	var left impl.Mesh
	for i, place := range m.Places {
		if int64(i) != b {
			left.Places = append(left.Places, place)
		}
	}
	for _, c := range m.Triangles {
		if holds(c, a) && holds(c, b) {
			continue
		}
		var list []int64
		for _, place := range c {
			if place == b {
				place = a
			}
			if place > b {
				place--
			}
			list = append(list, place)
		}
		left.Triangles = append(left.Triangles, list)
	}
	return left
}

func slowTwins(m impl.Mesh) bool {
	for i, c := range m.Triangles {
		for _, other := range m.Triangles[:i] {
			if holds(other, c[0]) && holds(other, c[1]) && holds(other, c[2]) {
				return true
			}
		}
	}
	return false
}

// slowJoin computes a join.
func slowJoin(m impl.Mesh, a, b int64) (impl.Mesh, bool) {
	if !isPair(m, a, b) {
		return impl.Mesh{}, false
	}
	left := slowMerge(m, a, b)
	if len(left.Triangles) == 0 || slowTwins(left) || !countedSheet(left) || countedEuler(left) != countedEuler(m) {
		return impl.Mesh{}, false
	}
	return left, true
}

func slowLong(m impl.Mesh, a, b int64) float64 {
	return pointOf(m.Places[a]).minus(pointOf(m.Places[b])).long()
}

// slowGain computes how much shorter an edge becomes.
func slowGain(m impl.Mesh, a, b int64) (float64, bool) {
	if _, ok := slowFlip(m, a, b); !ok {
		return 0, false
	}
	_, c, _ := slowGoing(m, a, b)
	_, d, _ := slowGoing(m, b, a)
	return rounded(slowLong(m, a, b) - slowLong(m, c, d)), true
}

// found is an edge with a number, if there is one.
type found struct {
	edge   []int64
	number float64
	ok     bool
}

// slowGreatest finds the edge of the greatest number; measure may tell that an edge has none.
func slowGreatest(m impl.Mesh, measure func(a, b int64) (float64, bool)) found {
	var best found
	edges, _ := countedEdges(m)
	for _, e := range edges {
		x, ok := measure(e[0], e[1])
		if ok && x == x && (!best.ok || x > best.number) {
			best = found{e, x, true}
		}
	}
	return best
}

func slowLongest(m impl.Mesh) found {
	return slowGreatest(m, func(a, b int64) (float64, bool) { return slowLong(m, a, b), true })
}

func slowShortest(m impl.Mesh) found {
	least := slowGreatest(m, func(a, b int64) (float64, bool) { return -slowLong(m, a, b), true })
	if least.ok {
		least.number = 0 - least.number
	}
	return least
}

func slowBest(m impl.Mesh) found {
	return slowGreatest(m, func(a, b int64) (float64, bool) { return slowGain(m, a, b) })
}

// slowThickness computes how thick a triangle is.
func slowThickness(m impl.Mesh, c []int64) float32 {
	at := pointsOf(m.Places)
	one, two, three := at[c[1]].minus(at[c[0]]), at[c[2]].minus(at[c[1]]), at[c[0]].minus(at[c[2]])
	n := one.cross(at[c[2]].minus(at[c[0]]))
	sum := rounded(rounded(one.inner(one)+two.inner(two)) + three.inner(three))
	return float32(rounded(rounded(3.4641016)*n.long()) / sum)
}

// slowMend computes what mends a sheet, and the mended one.
func slowMend(m impl.Mesh, short, long float32) (impl.Mesh, int64) {
	if f := slowLongest(m); f.ok && f.number > float64(long) {
		if next, ok := slowSplit(m, f.edge[0], f.edge[1], 0.5); ok {
			return next, 1
		}
	}
	if f := slowShortest(m); f.ok && f.number < float64(short) {
		if next, ok := slowJoin(m, f.edge[0], f.edge[1]); ok {
			return next, 2
		}
	}
	if f := slowBest(m); f.ok && f.number > 0 {
		next, _ := slowFlip(m, f.edge[0], f.edge[1])
		return next, 3
	}
	return m, 0
}

// wantChange compares a changed mesh with a second computation, which may tell that there is none.
func wantChange(t *testing.T, what string, got impl.Mesh, ok bool, expected impl.Mesh, there bool) {
	t.Helper()
	if there {
		wantMesh(t, what, got, ok, expected.Places, expected.Triangles)
	} else {
		wantNone(t, what, got, ok)
	}
}

// wantEdge compares an edge and its number in the same way.
func wantEdge(t *testing.T, what string, edge []int64, number float32, ok bool, expected found) {
	t.Helper()
	if !expected.ok {
		wantNone(t, what, edge, ok)
		wantNoSum(t, what, number, ok)
		return
	}
	wantOk(t, what, edge, ok, expected.edge)
	wantNumber(t, what, number, float32(expected.number))
}

// wantKept asks for a sheet with the number of Euler of another one.
func wantKept(t *testing.T, what string, before, behind impl.Mesh) {
	t.Helper()
	if !countedSheet(behind) {
		t.Errorf("%s is no sheet: %v", what, behind.Triangles)
	}
	want(t, what+", number of Euler", countedEuler(behind), countedEuler(before))
}

// turned tells the triangles of a mesh, whichever is the first one, and wherever they begin.
func turned(m impl.Mesh) string {
	var list [][]int64
	for _, c := range m.Triangles {
		k := slices.Index(c, min(c[0], c[1], c[2]))
		list = append(list, tri(c[k], c[(k+1)%3], c[(k+2)%3]))
	}
	slices.SortFunc(list, slices.Compare[[]int64])
	return fmt.Sprint(list)
}

// wantTurned compares meshes by places, and by triangles as told by turned.
func wantTurned(t *testing.T, what string, got impl.Mesh, ok bool, expected impl.Mesh) {
	t.Helper()
	wantMesh(t, what, impl.Mesh{Places: got.Places}, ok, expected.Places, nil)
	want(t, what+", turned triangles", turned(got), turned(expected))
}

// badShares are not between 0 and 1.
func badShares() []float32 {
	return nums(0, minusZ, 0x3f800000, 0x3f800001, 0x80000001, 0xbf000000, 0x7f7fffff, 0xff7fffff, inf, negInf, nan, 0xffc00001)
}
