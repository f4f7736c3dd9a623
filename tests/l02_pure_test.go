package tests

import (
	"fmt"
	"math"
	"strings"
	"testing"

	"loop.example/g01222/impl"
)

// callOf tells what a function makes of an argument, and what it tells if it fails.
type callOf[T any] struct {
	name   string
	tell   func(argument T) string
	failed string
}

type meshCall = callOf[impl.Mesh]

const (
	noLists = "[] false "
	noMesh  = "{[] []} false "
)

// meshCalls call all functions of chapter 2 that take a mesh and no place.
func meshCalls() []meshCall {
	other := meshOf(3, tri(0, 1, 2))
	return []meshCall{
		{"ValidMesh", func(m impl.Mesh) string { return told(impl.ValidMesh(m)) }, "false "},
		{"IsSheet", func(m impl.Mesh) string { return told(impl.IsSheet(m)) }, "false "},
		{"EdgesOf", func(m impl.Mesh) string { return told(impl.EdgesOf(m)) }, noLists},
		{"BorderOf", func(m impl.Mesh) string { return told(impl.BorderOf(m)) }, noLists},
		{"EulerOf", func(m impl.Mesh) string { return told(impl.EulerOf(m)) }, "0 false "},
		{"PiecesOf", func(m impl.Mesh) string { return told(impl.PiecesOf(m)) }, "[] 0 false "},
		{"AreaOf", func(m impl.Mesh) string { return told(impl.AreaOf(m)) }, "00000000 false "},
		{"LongsOf", func(m impl.Mesh) string { return told(impl.LongsOf(m)) }, "(0) false "},
		{"TurnMesh", func(m impl.Mesh) string { return told(impl.TurnMesh(m)) }, noMesh},
		{"MoveMesh", func(m impl.Mesh) string { return told(impl.MoveMesh(m, vec(1, 2, num(nan)))) }, noMesh},
		{"ScaleMesh", func(m impl.Mesh) string { return told(impl.ScaleMesh(m, num(inf))) }, noMesh},
		{"JoinMeshes", func(m impl.Mesh) string { return told(impl.JoinMeshes(m, impl.Mesh{})) }, noMesh},
		{"JoinMeshes first", func(m impl.Mesh) string { return told(impl.JoinMeshes(m, other)) }, noMesh},
		{"JoinMeshes second", func(m impl.Mesh) string { return told(impl.JoinMeshes(other, m)) }, noMesh},
		{"SameMesh", func(m impl.Mesh) string { return told(impl.SameMesh(m, other)) }, "false "},
		{"SameMesh second", func(m impl.Mesh) string { return told(impl.SameMesh(other, m)) }, "false "},
	}
}

// placeCalls call those that take a place or a triangle as well.
func placeCalls(i int64) []meshCall {
	return []meshCall{
		{"TrianglesAt", func(m impl.Mesh) string { return told(impl.TrianglesAt(m, 0, i)) }, noLists},
		{"TrianglesAt second", func(m impl.Mesh) string { return told(impl.TrianglesAt(m, i, 1)) }, noLists},
		{"TrianglesOf", func(m impl.Mesh) string { return told(impl.TrianglesOf(m, i)) }, noLists},
		{"NeighboursOf", func(m impl.Mesh) string { return told(impl.NeighboursOf(m, i)) }, noLists},
		{"NormalOf", func(m impl.Mesh) string { return told(impl.NormalOf(m, i)) }, "00000000 00000000 00000000 false "},
	}
}

// spare copies a mesh so that each of its lists has unused capacity.
func spare(m impl.Mesh) impl.Mesh {
	c := impl.Mesh{
		Places:    make([]impl.Vector, 0, len(m.Places)+3),
		Triangles: make([][]int64, 0, len(m.Triangles)+3),
	}
	c.Places = append(c.Places, m.Places...)
	for _, list := range m.Triangles {
		c.Triangles = append(c.Triangles, append(make([]int64, 0, len(list)+3), list...))
	}
	return c
}

// whole tells a mesh with all that its lists could hold.
func whole(m impl.Mesh) string {
	text := told(m.Places[:cap(m.Places)])
	for _, list := range m.Triangles[:cap(m.Triangles)] {
		text += told(list[:cap(list)], len(list))
	}
	return text
}

// wantLeft asks that functions leave an argument as it is, with all that its lists could hold, and tell the same of an equal one.
func wantLeft[T any](t *testing.T, what string, argument, equal T, whole func(T) string, calls []callOf[T]) {
	t.Helper()
	before := whole(argument)
	for _, call := range calls {
		name := call.name + " of " + what
		twice(t, name, func() string { return call.tell(argument) })
		if after := whole(argument); after != before {
			t.Fatalf("%s changes it from %s to %s", name, before, after)
		}
		if got, fresh := call.tell(argument), call.tell(equal); got != fresh {
			t.Errorf("%s: %s, but %s with other capacity", name, got, fresh)
		}
	}
}

// wantUntouched asks for this with a mesh.
func wantUntouched(t *testing.T, i int, m impl.Mesh, calls []meshCall) {
	t.Helper()
	wantLeft(t, named("mesh", i), spare(m), m, whole, calls)
}

// wantFailures asks that functions fail for all invalid meshes.
func wantFailures(t *testing.T, calls []meshCall) {
	t.Helper()
	for i, m := range invalidMeshes() {
		for _, call := range calls {
			if got := call.tell(m); got != call.failed {
				t.Errorf("%s of the invalid mesh %d: %s", call.name, i, got)
			}
		}
	}
}

func TestFunctionsOfMeshesLeaveTheirArguments(t *testing.T) {
	for i, m := range append(validMeshes(), invalidMeshes()...) {
		calls := meshCalls()
		for _, place := range []int64{math.MinInt64, -1, 0, 1, 2, 63, 64, math.MaxInt64} {
			calls = append(calls, placeCalls(place)...)
		}
		wantUntouched(t, i, m, calls)
	}
}

func TestFunctionsOfMeshesFailForInvalidOnes(t *testing.T) {
	wantFailures(t, append(meshCalls(), placeCalls(0)...))
	for i, m := range validMeshes() {
		for _, call := range meshCalls() {
			full := strings.HasPrefix(call.name, "JoinMeshes ") && len(m.Places) > 61
			if got := call.tell(m); got == call.failed && !full && call.failed != "false " {
				t.Errorf("%s of the valid mesh %d fails", call.name, i)
			}
		}
	}
}

func TestFormsReturnEqualResults(t *testing.T) {
	counts := []int64{math.MinInt64, -1, 0, 1, 2, 3, 7, 16, 17, 31, 63, 64, 1 << 32, math.MaxInt64}
	for _, x := range oddNumbers() {
		twice(t, told("BoxMesh", x), func() string { return told(impl.BoxMesh(x)) })
		for _, a := range counts {
			twice(t, told("BallMesh", a, x), func() string { return told(impl.BallMesh(a, x)) })
			for _, b := range counts {
				twice(t, told("GridMesh", a, b, x), func() string { return told(impl.GridMesh(a, b, x)) })
				twice(t, told("RingMesh", a, b, x), func() string {
					return told(impl.RingMesh(a, b, x, 1)) + told(impl.RingMesh(a, b, 1, x))
				})
			}
		}
	}
}

// spoilLists writes over all that lists hold and could hold.
func spoilLists(lists [][]int64) {
	for _, list := range lists {
		spoil(list)
	}
	spoil(lists)
}

func spoil[T any](list []T) {
	var zero T
	list = list[:cap(list)]
	for i := range list {
		list[i] = zero
	}
}

// spoilMesh does the same with a mesh.
func spoilMesh(m impl.Mesh) {
	spoilLists(m.Triangles)
	spoil(m.Places)
}

func TestResultsShareNoMemoryWithMeshes(t *testing.T) {
	for i, m := range validMeshes() {
		argument, other := spare(m), spare(meshOf(0))
		before := whole(argument)
		spoilMesh(first(impl.TurnMesh(argument)))
		spoilMesh(first(impl.MoveMesh(argument, vec(1, 1, 1))))
		spoilMesh(first(impl.MoveMesh(argument, impl.Vector{})))
		spoilMesh(first(impl.ScaleMesh(argument, 1)))
		spoilMesh(first(impl.JoinMeshes(argument, other)))
		spoilMesh(first(impl.JoinMeshes(other, argument)))
		spoilLists(first(impl.EdgesOf(argument)))
		spoilLists(first(impl.BorderOf(argument)))
		spoil(first(impl.LongsOf(argument)))
		pieces, _, _ := impl.PiecesOf(argument)
		spoil(pieces)
		for place := range int64(len(m.Places)) {
			spoil(first(impl.TrianglesOf(argument, place)))
			spoil(first(impl.NeighboursOf(argument, place)))
			spoil(first(impl.TrianglesAt(argument, 0, place)))
		}
		if after := whole(argument); after != before {
			t.Errorf("a result shares memory with mesh %d: %s became %s", i, before, after)
		}
	}
}

func first[A, B any](a A, _ B) A { return a }

// wantRowsApart spoils each of some lists and looks at the next ones, which must stay as they are kept.
func wantRowsApart(t *testing.T, what string, spoiled, kept [][]int64) {
	t.Helper()
	for i := range spoiled {
		spoil(append(spoiled[i], 7, 7, 7, 7))
		spoil(spoiled[i])
		if told(spoiled[i+1:]) != told(kept[i+1:]) {
			t.Fatalf("%s: list %d shares memory with the next ones", what, i)
		}
	}
}

// wantMeshApart spoils each list of a mesh and looks at the others, and at the next result.
func wantMeshApart(t *testing.T, what string, call func() impl.Mesh) {
	t.Helper()
	kept, spoiled := call(), call()
	wantRowsApart(t, what, spoiled.Triangles, kept.Triangles)
	want(t, what+", places", spoiled.Places, kept.Places)
	spoil(spoiled.Places)
	want(t, what+" again", call(), kept)
}

// TestListsOfAResultShareNoMemory spoils each list of a result and looks at the others.
func TestListsOfAResultShareNoMemory(t *testing.T) {
	lists := map[string]func() [][]int64{}
	for i, m := range append(forms(), fan(5)) {
		lists[fmt.Sprint("triangles of form ", i)] = func() [][]int64 { return first(impl.ScaleMesh(m, 1)).Triangles }
		lists[fmt.Sprint("turned form ", i)] = func() [][]int64 { return first(impl.TurnMesh(m)).Triangles }
		lists[fmt.Sprint("joined form ", i)] = func() [][]int64 { return first(impl.JoinMeshes(m, impl.Mesh{})).Triangles }
		lists[fmt.Sprint("edges of form ", i)] = func() [][]int64 { return first(impl.EdgesOf(m)) }
		lists[fmt.Sprint("border of form ", i)] = func() [][]int64 { return first(impl.BorderOf(m)) }
	}
	lists["ring"] = func() [][]int64 { return first(impl.RingMesh(4, 2, 1, 1)).Triangles }
	lists["grid"] = func() [][]int64 { return first(impl.GridMesh(3, 3, 1)).Triangles }
	lists["box"] = func() [][]int64 { return first(impl.BoxMesh(1)).Triangles }
	lists["ball"] = func() [][]int64 { return first(impl.BallMesh(0, 1)).Triangles }
	lists["round ball"] = func() [][]int64 { return first(impl.BallMesh(1, 1)).Triangles }
	for what, call := range lists {
		kept, spoiled := call(), call()
		wantRowsApart(t, what, spoiled, kept)
		want(t, what+" again", call(), kept)
	}
}
