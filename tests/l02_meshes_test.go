package tests

import (
	"fmt"
	"math"
	"testing"

	"loop.example/g01222/impl"
)

func TestValidMesh(t *testing.T) {
	for _, m := range validMeshes() {
		if !impl.ValidMesh(m) {
			t.Errorf("%d places and triangles %v are not valid", len(m.Places), m.Triangles)
		}
	}
	for _, m := range invalidMeshes() {
		if impl.ValidMesh(m) {
			t.Errorf("%d places and triangles %v are valid", len(m.Places), m.Triangles)
		}
	}
	if !impl.ValidMesh(impl.Mesh{Places: []impl.Vector{}, Triangles: [][]int64{}}) {
		t.Error("an empty mesh is not valid")
	}
}

func TestLimitsOfMeshesCanBeReached(t *testing.T) {
	if impl.MaxPlaces != 64 || impl.MaxTriangles != 128 {
		t.Fatalf("limits %d and %d", impl.MaxPlaces, impl.MaxTriangles)
	}
	for _, places := range []int{63, 64, 65} {
		for _, triangles := range []int{0, 127, 128, 129} {
			m := meshOf(places, repeat(tri(62, 0, 31), triangles)...)
			allowed := places <= 64 && triangles <= 128
			want(t, fmt.Sprintf("%d places and %d triangles", places, triangles), impl.ValidMesh(m), allowed)
			edges, ok := impl.EdgesOf(m)
			if ok != allowed || !ok && len(edges) > 0 {
				t.Errorf("edges of %d places and %d triangles: %v, %v", places, triangles, edges, ok)
			}
		}
	}
}

func TestSameMesh(t *testing.T) {
	meshes := append(validMeshes(), invalidMeshes()...)
	for i, a := range meshes {
		for j, b := range meshes {
			same := told(a.Places) == told(b.Places) && told(a.Triangles) == told(b.Triangles)
			want(t, fmt.Sprintf("meshes %d and %d", i, j), impl.SameMesh(a, b), same)
		}
	}
}

func TestSameMeshComparesTheSmallestDifference(t *testing.T) {
	a := meshOf(4, tri(0, 1, 2), tri(1, 0, 3))
	places := func(change func(places []impl.Vector)) impl.Mesh {
		m := meshOf(4, tri(0, 1, 2), tri(1, 0, 3))
		change(m.Places)
		return m
	}
	cases := map[string]struct {
		m    impl.Mesh
		same bool
	}{
		"itself":            {meshOf(4, tri(0, 1, 2), tri(1, 0, 3)), true},
		"another order":     {meshOf(4, tri(1, 0, 3), tri(0, 1, 2)), false},
		"a turned triangle": {meshOf(4, tri(1, 2, 0), tri(1, 0, 3)), false},
		"one triangle less": {meshOf(4, tri(0, 1, 2)), false},
		"one triangle more": {meshOf(4, tri(0, 1, 2), tri(1, 0, 3), tri(0, 1, 2)), false},
		"one place more":    {meshOf(5, tri(0, 1, 2), tri(1, 0, 3)), false},
		"a longer triangle": {meshOf(4, tri(0, 1, 2), []int64{1, 0, 3, 0}), false},
		"-0 for +0":         {places(func(p []impl.Vector) { p[0].X = num(minusZ) }), false},
		"the next X":        {places(func(p []impl.Vector) { p[3].X = num(bitsOf(p[3].X) + 1) }), false},
		"the next Y":        {places(func(p []impl.Vector) { p[3].Y = num(bitsOf(p[3].Y) + 1) }), false},
		"the next Z":        {places(func(p []impl.Vector) { p[3].Z = num(bitsOf(p[3].Z) + 1) }), false},
		"exchanged places":  {places(func(p []impl.Vector) { p[0], p[1] = p[1], p[0] }), false},
	}
	for what, c := range cases {
		want(t, what, impl.SameMesh(a, c.m), c.same)
		want(t, what+", turned", impl.SameMesh(c.m, a), c.same)
	}
	none, empty := impl.Mesh{}, impl.Mesh{Places: []impl.Vector{}, Triangles: [][]int64{}}
	want(t, "nil and empty", impl.SameMesh(none, empty), true)
	want(t, "nil and empty triangles", impl.SameMesh(meshOf(1, nil), meshOf(1, []int64{})), true)
	odd := func(bits uint32) impl.Mesh { return impl.Mesh{Places: []impl.Vector{vec(1, num(bits), 2)}} }
	want(t, "not-a-numbers", impl.SameMesh(odd(nan), odd(0xffc00001)), true)
	want(t, "not-a-number and infinity", impl.SameMesh(odd(nan), odd(inf)), false)
}

// countedEdges finds the edges and their triangles pair by pair.
func countedEdges(m impl.Mesh) (edges [][]int64, at [][]int64) {
	places := int64(len(m.Places))
	for a := range places {
		for b := a + 1; b < places; b++ {
			if list := countedAt(m, a, b); len(list) > 0 {
				edges, at = append(edges, []int64{a, b}), append(at, list)
			}
		}
	}
	return edges, at
}

func countedAt(m impl.Mesh, a, b int64) []int64 {
	var list []int64
	for i, triangle := range m.Triangles {
		if holds(triangle, a) && holds(triangle, b) {
			list = append(list, int64(i))
		}
	}
	return list
}

func holds(list []int64, x int64) bool {
	for _, y := range list {
		if x == y {
			return true
		}
	}
	return false
}

func TestEdgesAreAllPairsOfPlacesInTriangles(t *testing.T) {
	for i, m := range validMeshes() {
		what := fmt.Sprintf("mesh %d", i)
		expected, at := countedEdges(m)
		edges, ok := impl.EdgesOf(m)
		wantOk(t, "edges of "+what, edges, ok, expected)
		var border [][]int64
		for j, list := range at {
			if len(list) == 1 {
				border = append(border, expected[j])
			}
		}
		got, ok := impl.BorderOf(m)
		wantOk(t, "border of "+what, got, ok, border)
	}
}

func TestEdgesOfMoreThanTwoTriangles(t *testing.T) {
	m := meshOf(6, tri(5, 0, 3), tri(1, 2, 4), tri(3, 5, 1), tri(3, 5, 2))
	edges, ok := impl.EdgesOf(m)
	wantOk(t, "edges", edges, ok, [][]int64{{0, 3}, {0, 5}, {1, 2}, {1, 3}, {1, 4}, {1, 5}, {2, 3}, {2, 4}, {2, 5}, {3, 5}})
	border, ok := impl.BorderOf(m)
	wantOk(t, "border", border, ok, [][]int64{{0, 3}, {0, 5}, {1, 2}, {1, 3}, {1, 4}, {1, 5}, {2, 3}, {2, 4}, {2, 5}})
	at, ok := impl.TrianglesAt(m, 5, 3)
	wantOk(t, "triangles at 5 and 3", at, ok, []int64{0, 2, 3})
	euler, ok := impl.EulerOf(m)
	wantOk(t, "number of Euler", euler, ok, 0)
	want(t, "sheet", impl.IsSheet(m), false)
	// The same triangle three times has no edge of one triangle.
	border, ok = impl.BorderOf(meshOf(3, repeat(tri(0, 1, 2), 3)...))
	wantOk(t, "border of three equal triangles", border, ok, nil)
}

func TestTrianglesAtTwoPlaces(t *testing.T) {
	for i, m := range validMeshes() {
		for a := range int64(len(m.Places)) {
			for b := range int64(len(m.Places)) {
				what := fmt.Sprintf("mesh %d, triangles at %d and %d", i, a, b)
				got, ok := impl.TrianglesAt(m, a, b)
				if a == b {
					wantNone(t, what, got, ok)
				} else {
					wantOk(t, what, got, ok, countedAt(m, a, b))
				}
			}
		}
	}
}

func TestTrianglesAndNeighboursOfAPlace(t *testing.T) {
	for i, m := range validMeshes() {
		for place := range int64(len(m.Places)) {
			what := fmt.Sprintf("mesh %d, place %d", i, place)
			of, ok := impl.TrianglesOf(m, place)
			wantOk(t, "triangles of "+what, of, ok, countedAt(m, place, place))
			var near []int64
			for other := range int64(len(m.Places)) {
				if other != place && len(countedAt(m, place, other)) > 0 {
					near = append(near, other)
				}
			}
			got, ok := impl.NeighboursOf(m, place)
			wantOk(t, "neighbours of "+what, got, ok, near)
		}
	}
}

func TestPlacesMustBeOfTheMesh(t *testing.T) {
	for _, m := range append(validMeshes(), invalidMeshes()...) {
		count := int64(len(m.Places))
		for _, place := range []int64{-1, count, count + 1, 1 << 32, math.MinInt64, math.MaxInt64} {
			of, ok := impl.TrianglesOf(m, place)
			wantNone(t, "triangles of no place", of, ok)
			near, ok := impl.NeighboursOf(m, place)
			wantNone(t, "neighbours of no place", near, ok)
			for _, other := range []int64{0, place} {
				at, ok := impl.TrianglesAt(m, place, other)
				wantNone(t, "triangles at no place", at, ok)
				at, ok = impl.TrianglesAt(m, other, place)
				wantNone(t, "triangles at no other place", at, ok)
			}
		}
	}
}

func TestIsSheet(t *testing.T) {
	sheets := map[string]impl.Mesh{
		"empty":                 {},
		"places alone":          meshOf(64),
		"one triangle":          meshOf(3, tri(2, 0, 1)),
		"two that go round":     meshOf(4, tri(0, 1, 2), tri(1, 0, 3)),
		"both sides of one":     meshOf(3, tri(0, 1, 2), tri(1, 0, 2)),
		"two with one place":    meshOf(5, tri(0, 1, 2), tri(2, 3, 4)),
		"two pieces":            meshOf(6, tri(0, 1, 2), tri(5, 4, 3)),
		"three around a corner": meshOf(4, tri(0, 1, 2), tri(0, 2, 3), tri(0, 3, 1)),
	}
	for what, m := range sheets {
		want(t, what, impl.IsSheet(m), true)
	}
	others := map[string]impl.Mesh{
		"the same direction":       meshOf(4, tri(0, 1, 2), tri(0, 1, 3)),
		"the same one later":       meshOf(4, tri(0, 1, 2), tri(3, 0, 1)),
		"the same around":          meshOf(4, tri(0, 1, 2), tri(1, 3, 0), tri(2, 0, 3)),
		"the same down":            meshOf(4, tri(1, 0, 2), tri(1, 0, 3)),
		"the same by the last":     meshOf(4, tri(1, 2, 0), tri(1, 3, 0)),
		"the same triangle":        meshOf(3, tri(0, 1, 2), tri(1, 2, 0)),
		"three triangles":          meshOf(5, tri(0, 1, 2), tri(1, 0, 3), tri(1, 0, 4)),
		"three, others between":    meshOf(7, tri(0, 1, 2), tri(2, 1, 5), tri(1, 0, 3), tri(5, 6, 2), tri(0, 1, 4)),
		"a fan of four":            fan(4),
		"invalid, nothing but one": meshOf(3, tri(0, 1, 1)),
	}
	for what, m := range others {
		want(t, what, impl.IsSheet(m), false)
	}
	for _, m := range invalidMeshes() {
		want(t, "invalid mesh", impl.IsSheet(m), false)
	}
}

// countedSheet looks at each edge, and how each of its triangles goes along it.
func countedSheet(m impl.Mesh) bool {
	edges, at := countedEdges(m)
	for i, e := range edges {
		ups := 0
		for _, triangle := range at[i] {
			if goesAlong(m.Triangles[triangle], e[0], e[1]) {
				ups++
			}
		}
		if len(at[i]) > 2 || ups > 1 || len(at[i])-ups > 1 {
			return false
		}
	}
	return true
}

func TestSheetsAreToldByPairs(t *testing.T) {
	for i, m := range validMeshes() {
		want(t, fmt.Sprintf("mesh %d", i), impl.IsSheet(m), countedSheet(m))
	}
}

func goesAlong(list []int64, a, b int64) bool {
	return list[0] == a && list[1] == b || list[1] == a && list[2] == b || list[2] == a && list[0] == b
}

func TestEulerOf(t *testing.T) {
	cases := map[string]struct {
		m     impl.Mesh
		euler int64
	}{
		"empty":                {impl.Mesh{}, 0},
		"places alone":         {meshOf(64), 0},
		"one triangle":         {meshOf(3, tri(0, 1, 2)), 1},
		"places that none has": {meshOf(9, tri(7, 1, 4)), 1},
		"two pieces":           {meshOf(6, tri(0, 1, 2), tri(3, 4, 5)), 2},
		"two at one place":     {meshOf(5, tri(0, 1, 2), tri(2, 3, 4)), 1},
		"the same twice":       {meshOf(3, tri(0, 1, 2), tri(0, 1, 2)), 2},
		"a fan of 62":          {fan(62), 1},
		"the same, 128 times":  {meshOf(3, repeat(tri(0, 1, 2), 128)...), 128},
	}
	for what, c := range cases {
		euler, ok := impl.EulerOf(c.m)
		wantOk(t, what, euler, ok, c.euler)
	}
	for i, m := range validMeshes() {
		euler, ok := impl.EulerOf(m)
		wantOk(t, fmt.Sprintf("mesh %d", i), euler, ok, countedEuler(m))
	}
}

// countedEuler counts places, edges and triangles without the program.
func countedEuler(m impl.Mesh) int64 {
	edges, _ := countedEdges(m)
	used := 0
	for place := range int64(len(m.Places)) {
		if len(countedAt(m, place, place)) > 0 {
			used++
		}
	}
	return int64(used - len(edges) + len(m.Triangles))
}

func TestPiecesOf(t *testing.T) {
	cases := map[string]struct {
		m      impl.Mesh
		pieces []int64
		count  int64
	}{
		"empty":              {impl.Mesh{}, nil, 0},
		"places alone":       {meshOf(3), []int64{0, 1, 2}, 3},
		"one triangle":       {meshOf(3, tri(2, 1, 0)), []int64{0, 0, 0}, 1},
		"one triangle later": {meshOf(6, tri(5, 1, 3)), []int64{0, 1, 2, 1, 3, 1}, 4},
		"two in each other":  {meshOf(6, tri(5, 3, 1), tri(4, 2, 0)), []int64{0, 1, 0, 1, 0, 1}, 2},
		"one place common":   {meshOf(5, tri(4, 3, 2), tri(0, 1, 2)), []int64{0, 0, 0, 0, 0}, 1},
		"a chain back":       {meshOf(8, tri(0, 6, 7), tri(6, 4, 5), tri(4, 2, 3)), []int64{0, 1, 0, 0, 0, 0, 0, 0}, 2},
		"a late bridge":      {meshOf(7, tri(0, 1, 2), tri(3, 4, 5), tri(2, 6, 5)), []int64{0, 0, 0, 0, 0, 0, 0}, 1},
	}
	for what, c := range cases {
		pieces, count, ok := impl.PiecesOf(c.m)
		wantOk(t, what, pieces, ok, c.pieces)
		want(t, what+", count", count, c.count)
	}
	for _, m := range invalidMeshes() {
		pieces, count, ok := impl.PiecesOf(m)
		wantNone(t, "pieces of an invalid mesh", pieces, ok)
		want(t, "their number", count, int64(0))
	}
}

// TestPiecesJoinJustWhatEdgesJoin spreads the least places along edges until nothing changes.
func TestPiecesJoinJustWhatEdgesJoin(t *testing.T) {
	for i, m := range validMeshes() {
		least := make([]int64, len(m.Places))
		for place := range least {
			least[place] = int64(place)
		}
		edges, _ := countedEdges(m)
		for range m.Places {
			for _, e := range edges {
				low := min(least[e[0]], least[e[1]])
				least[e[0]], least[e[1]] = low, low
			}
		}
		expected := make([]int64, len(m.Places))
		var count int64
		for place := range least {
			if least[place] == int64(place) {
				expected[place] = count
				count++
			}
			expected[place] = expected[least[place]]
		}
		pieces, got, ok := impl.PiecesOf(m)
		wantOk(t, fmt.Sprintf("mesh %d", i), pieces, ok, expected)
		want(t, "their number", got, count)
	}
}
