package tests

import (
	"fmt"
	"math"
	"testing"

	"loop.example/g01222/impl"
)

func tri(a, b, c int64) []int64 { return []int64{a, b, c} }

// meshOf makes a mesh whose places have no three on a line.
func meshOf(places int, triangles ...[]int64) impl.Mesh {
	m := impl.Mesh{Triangles: triangles}
	for i := range places {
		x := float32(i)
		m.Places = append(m.Places, vec(x, x*x, x*x*x))
	}
	return m
}

// fan makes a mesh of so many triangles that go along the edge 0 1.
func fan(triangles int) impl.Mesh {
	m := meshOf(triangles + 2)
	for i := range triangles {
		m.Triangles = append(m.Triangles, tri(0, 1, int64(i+2)))
	}
	return m
}

// want compares results by their texts.
func want(t *testing.T, what string, got, expected any) {
	t.Helper()
	if told(got) != told(expected) {
		t.Errorf("%s: got %v, want %v", what, got, expected)
	}
}

// wantOk compares a result, which must be there, by its text.
func wantOk[T any](t *testing.T, what string, got T, ok bool, expected T) {
	t.Helper()
	if !ok {
		t.Errorf("%s failed", what)
	}
	want(t, what, got, expected)
}

// wantNone asks for a failure with the zero value, or an empty list.
func wantNone[T any](t *testing.T, what string, got T, ok bool) {
	t.Helper()
	var zero T
	if ok || told(got) != told(zero) {
		t.Errorf("%s: got %v, %v instead of a failure", what, got, ok)
	}
}

// wantMesh compares meshes without the program.
func wantMesh(t *testing.T, what string, got impl.Mesh, ok bool, places []impl.Vector, triangles [][]int64) {
	t.Helper()
	if !ok {
		t.Errorf("%s failed", what)
	}
	want(t, what+", triangles", got.Triangles, triangles)
	if len(got.Places) != len(places) {
		t.Fatalf("%s: %d places, want %d", what, len(got.Places), len(places))
	}
	for i, place := range places {
		wantVector(t, fmt.Sprintf("%s, place %d", what, i), got.Places[i], place)
	}
}

// validMeshes are meshes with edges of any number of triangles.
func validMeshes() []impl.Mesh {
	grid, _ := impl.GridMesh(7, 7, 0.5)
	ring, _ := impl.RingMesh(5, 2, 1, 0.25)
	box, _ := impl.BoxMesh(3)
	ball, _ := impl.BallMesh(1, 1.5)
	odd := meshOf(5, tri(0, 1, 2), tri(2, 1, 4))
	odd.Places[1], odd.Places[3] = vec(num(nan), 1, num(inf)), vec(num(negInf), num(minusZ), 1e38)
	return []impl.Mesh{
		{}, meshOf(1), meshOf(64), meshOf(3, tri(0, 1, 2)), meshOf(3, tri(2, 1, 0)), meshOf(4, tri(3, 1, 2)),
		meshOf(3, tri(0, 1, 2), tri(0, 1, 2)), meshOf(3, tri(0, 1, 2), tri(1, 0, 2)), meshOf(3, tri(0, 1, 2), tri(1, 2, 0), tri(2, 0, 1)),
		meshOf(4, tri(0, 1, 2), tri(1, 0, 3)), meshOf(4, tri(0, 1, 2), tri(0, 1, 3)),
		meshOf(6, tri(0, 1, 2), tri(3, 4, 5)), meshOf(7, tri(5, 3, 1), tri(6, 4, 2)), meshOf(5, tri(0, 1, 2), tri(2, 3, 4)),
		fan(3), fan(4), fan(62), meshOf(5, tri(0, 1, 2), tri(1, 0, 3), tri(1, 0, 4)),
		odd, tangle(), grid, ring, box, ball,
	}
}

// tangle makes a mesh as large as allowed, whose triangles meet in many ways.
func tangle() impl.Mesh {
	m := meshOf(64)
	for i := range int64(128) {
		a, b, c := (7*i)%64, (7*i+1+i%9)%64, (7*i+11+i*i%40)%64
		m.Triangles = append(m.Triangles, tri(a, b, c))
	}
	return m
}

// invalidMeshes break one rule each.
func invalidMeshes() []impl.Mesh {
	return []impl.Mesh{
		meshOf(65), meshOf(65, tri(0, 1, 2)), meshOf(1000),
		meshOf(3, repeat(tri(0, 1, 2), 129)...), meshOf(64, repeat(tri(0, 1, 2), 129)...),
		{Triangles: [][]int64{tri(0, 1, 2)}}, {Triangles: [][]int64{nil}}, {Triangles: [][]int64{{}}},
		meshOf(2, tri(0, 1, 2)), meshOf(3, tri(0, 1, 3)), meshOf(3, tri(3, 0, 1)), meshOf(3, tri(0, 3, 1)), meshOf(64, tri(0, 1, 64)),
		meshOf(3, tri(-1, 0, 1)), meshOf(3, tri(0, -1, 1)), meshOf(3, tri(0, 1, -1)),
		meshOf(3, tri(0, 1, math.MaxInt64)), meshOf(3, tri(math.MinInt64, 1, 2)), meshOf(3, tri(0, 1, 1<<32)), meshOf(3, tri(0, 1, 256)),
		meshOf(3, tri(0, 0, 1)), meshOf(3, tri(0, 1, 1)), meshOf(3, tri(1, 0, 1)), meshOf(3, tri(2, 2, 2)),
		meshOf(4, tri(0, 1, 2), tri(1, 2, 2)), meshOf(4, tri(1, 2, 1), tri(1, 2, 3)),
		meshOf(4, nil), meshOf(4, []int64{}), meshOf(4, []int64{0}), meshOf(4, []int64{0, 1}), meshOf(4, []int64{0, 1, 2, 3}),
		meshOf(4, tri(0, 1, 2), []int64{1, 2}), meshOf(4, []int64{0, 1, 2, 0}),
	}
}
