package tests

import (
	"fmt"
	"math"
	"testing"

	"loop.example/g01222/impl"
)

type bodyCall = callOf[impl.Body]

const (
	noBody   = "{{[] []} [] 0 0 [] {0 0 0}} false "
	noVector = "00000000 00000000 00000000 false "
	noNumber = "00000000 false "
)

// bodyCalls call all functions of chapter 3 that take a body, with some index.
func bodyCalls(i int64) []bodyCall {
	other := mixedBody()
	return []bodyCall{
		{"ValidBody", func(b impl.Body) string { return told(impl.ValidBody(b)) }, "false "},
		{"SameBody", func(b impl.Body) string { return told(impl.SameBody(b, other)) }, "false "},
		{"SameBody second", func(b impl.Body) string { return told(impl.SameBody(other, b)) }, "false "},
		{"PartsOf", func(b impl.Body) string { return told(impl.PartsOf(b)) }, "(0) false "},
		{"EnergyOf", func(b impl.Body) string { return told(impl.EnergyOf(b)) }, noNumber},
		{"ForcesOf", func(b impl.Body) string { return told(impl.ForcesOf(b)) }, noLists},
		{"PullOf", func(b impl.Body) string { return told(impl.PullOf(b, i)) }, noVector},
		{"SlopeAt", func(b impl.Body) string { return told(impl.SlopeAt(b, i, 1, 0.5)) }, noNumber},
		{"SlopeAt axis", func(b impl.Body) string { return told(impl.SlopeAt(b, 0, i, 0.5)) }, noNumber},
		{"MovePlaces", func(b impl.Body) string {
			return told(impl.MovePlaces(b, repeat(vec(1, 2, num(nan)), len(b.Mesh.Places)), 0.5))
		}, noBody},
		{"StretchesOf", func(b impl.Body) string { return told(impl.StretchesOf(b)) }, "(0) false "},
	}
}

func TestFunctionsOfBodiesLeaveTheirArguments(t *testing.T) {
	for i, b := range append(validBodies(), invalidBodies()...) {
		var calls []bodyCall
		for _, index := range []int64{math.MinInt64, -1, 0, 2, 3, 63, math.MaxInt64} {
			calls = append(calls, bodyCalls(index)...)
		}
		wantLeft(t, named("body", i), spareBody(b), b, wholeBody, calls)
	}
}

func TestFunctionsOfBodiesFailForInvalidOnes(t *testing.T) {
	for i, b := range invalidBodies() {
		for _, call := range bodyCalls(0) {
			if got := call.tell(b); got != call.failed {
				t.Errorf("%s of the invalid body %d: %s", call.name, i, got)
			}
		}
	}
}

func TestBodiesOfMeshesLeaveTheirArguments(t *testing.T) {
	for i, m := range append(validMeshes(), invalidMeshes()...) {
		argument := spare(m)
		before := whole(argument)
		twice(t, fmt.Sprintf("mesh %d", i), func() string {
			return told(impl.BareBody(argument)) + told(impl.HingesOf(argument)) + told(impl.SpringEdges(argument, 0.1)) +
				told(impl.SpringEdges(argument, num(nan)))
		})
		if after := whole(argument); after != before {
			t.Errorf("mesh %d is changed from %s to %s", i, before, after)
		}
	}
}

// oddVectors are lists of all lengths that matter, each with unused capacity.
func oddVectors() [][]impl.Vector {
	odd := oddNumbers()
	lists := [][]impl.Vector{nil, {}}
	for _, n := range []int{1, 2, 6, 63, 64, 65, 255, 256, 257, 5000} {
		list := make([]impl.Vector, n+8)
		for i := range list {
			list[i] = vec(odd[i%len(odd)], odd[(i+n)%len(odd)], odd[(i+11)%len(odd)])
		}
		lists = append(lists, list[:n])
	}
	return lists
}

func TestFunctionsOfVectorListsLeaveTheirArguments(t *testing.T) {
	lists, kept := oddVectors(), oddVectors()
	for i, list := range lists {
		twice(t, fmt.Sprintf("list of %d vectors", len(list)), func() string {
			text := told(impl.LongestOf(list)) + told(impl.TotalOf(list)) + told(impl.MovePlaces(mixedBody(), list, 3))
			return text + told(impl.MovePlaces(bodyOf(meshOf(64)), list, num(nan)))
		})
		if told(list[:cap(list)]) != told(kept[i][:cap(list)]) {
			t.Errorf("a list of %d vectors is changed", len(list))
		}
	}
}

// spoilBody writes over all that a body holds and could hold.
func spoilBody(b impl.Body) {
	spoilMesh(b.Mesh)
	spoil(b.Springs)
	spoil(b.Weights)
}

func TestResultsShareNoMemoryWithBodies(t *testing.T) {
	for i, b := range validBodies() {
		argument := spareBody(b)
		by := make([]impl.Vector, len(b.Mesh.Places), len(b.Mesh.Places)+3)
		before := wholeBody(argument) + told(by[:cap(by)])
		for _, share := range []float32{0, 1} {
			moved, _ := impl.MovePlaces(argument, by, share)
			for j := range by {
				by[j] = vec(1, 1, 1)
			}
			spoilBody(moved)
			spoil(by)
		}
		spoilBody(first(impl.BareBody(argument.Mesh)))
		spoilBody(first(impl.SpringEdges(argument.Mesh, 1)))
		spoilLists(first(impl.HingesOf(argument.Mesh)))
		spoil(first(impl.PartsOf(argument)))
		spoil(first(impl.ForcesOf(argument)))
		spoil(first(impl.StretchesOf(argument)))
		if after := wholeBody(argument) + told(by[:cap(by)]); after != before {
			t.Errorf("a result shares memory with body %d: %s became %s", i, before, after)
		}
	}
}

// wantListsApart spoils each list of a body and looks at the others, and at the next result.
func wantListsApart(t *testing.T, what string, call func() impl.Body) {
	t.Helper()
	kept, spoiled := call(), call()
	wantRowsApart(t, what+", triangles", spoiled.Mesh.Triangles, kept.Mesh.Triangles)
	spoil(spoiled.Mesh.Places)
	want(t, what+", springs", spoiled.Springs, kept.Springs)
	want(t, what+", weights", spoiled.Weights, kept.Weights)
	spoil(spoiled.Springs)
	want(t, what+", weights again", spoiled.Weights, kept.Weights)
	spoil(spoiled.Weights)
	want(t, what+" again", call(), kept)
}

func TestListsOfABodyShareNoMemory(t *testing.T) {
	ball, _ := impl.BallMesh(1, 2)
	results := map[string]func() impl.Body{
		"MovePlaces":  func() impl.Body { return first(impl.MovePlaces(mixedBody(), make([]impl.Vector, 6), 1)) },
		"BareBody":    func() impl.Body { return first(impl.BareBody(ball)) },
		"SpringEdges": func() impl.Body { return first(impl.SpringEdges(ball, 1)) },
	}
	for what, call := range results {
		wantListsApart(t, what, call)
	}
	kept, _ := impl.HingesOf(ball)
	spoiled, _ := impl.HingesOf(ball)
	wantRowsApart(t, "hinges", spoiled, kept)
}

func TestForcesOfABodyAreNewEachTime(t *testing.T) {
	b := mixedBody()
	forces, _ := impl.ForcesOf(b)
	parts, _ := impl.PartsOf(b)
	stretches, _ := impl.StretchesOf(b)
	kept := told(forces) + told(parts) + told(stretches)
	again := func() string {
		return told(first(impl.ForcesOf(b))) + told(first(impl.PartsOf(b))) + told(first(impl.StretchesOf(b)))
	}
	want(t, "forces, parts and stretches", again(), kept)
	spoil(forces)
	spoil(parts)
	spoil(stretches)
	want(t, "forces, parts and stretches again", again(), kept)
}
