package tests

import (
	"math"
	"testing"

	"loop.example/g01222/impl"
)

const noFound = "[] 00000000 false "

// mendingCalls call all functions of chapter 6 that take a mesh and no place, with two numbers and some rounds.
func mendingCalls(x, y float32, rounds int64) []meshCall {
	return []meshCall{
		{"DropPlaces", func(m impl.Mesh) string { return told(impl.DropPlaces(m)) }, noMesh},
		{"LongestEdge", func(m impl.Mesh) string { return told(impl.LongestEdge(m)) }, noFound},
		{"ShortestEdge", func(m impl.Mesh) string { return told(impl.ShortestEdge(m)) }, noFound},
		{"BestFlip", func(m impl.Mesh) string { return told(impl.BestFlip(m)) }, noFound},
		{"ThinTriangles", func(m impl.Mesh) string { return told(impl.ThinTriangles(m, x)) }, noLists},
		{"MendOnce", func(m impl.Mesh) string { return told(impl.MendOnce(m, x, y)) }, "{[] []} 0 false "},
		{"MendMesh", func(m impl.Mesh) string { return told(impl.MendMesh(m, x, y, rounds)) }, "{[] []} [] false "},
		{"SameForm", func(m impl.Mesh) string { return told(impl.SameForm(m, meshOf(3, tri(0, 1, 2)))) }, "false "},
		{"SameForm second", func(m impl.Mesh) string { return told(impl.SameForm(meshOf(3, tri(0, 1, 2)), m)) }, "false "},
		{"SameForm itself", func(m impl.Mesh) string { return told(impl.SameForm(m, m)) }, "false "},
	}
}

// edgeCalls call those that take places or a triangle, with a share.
func edgeCalls(a, b int64, share float32) []meshCall {
	return []meshCall{
		{"CanFlip", func(m impl.Mesh) string { return told(impl.CanFlip(m, a, b)) }, "false "},
		{"FlipEdge", func(m impl.Mesh) string { return told(impl.FlipEdge(m, a, b)) }, noMesh},
		{"FlipGain", func(m impl.Mesh) string { return told(impl.FlipGain(m, a, b)) }, noNumber},
		{"SplitEdge", func(m impl.Mesh) string { return told(impl.SplitEdge(m, a, b, share)) }, noMesh},
		{"CanJoin", func(m impl.Mesh) string { return told(impl.CanJoin(m, a, b)) }, "false "},
		{"JoinEdge", func(m impl.Mesh) string { return told(impl.JoinEdge(m, a, b)) }, noMesh},
		{"CutHole", func(m impl.Mesh) string { return told(impl.CutHole(m, a)) }, noMesh},
		{"ThicknessOf", func(m impl.Mesh) string { return told(impl.ThicknessOf(m, a)) }, noNumber},
	}
}

func TestFunctionsOfMendingLeaveTheirArguments(t *testing.T) {
	odd := oddNumbers()
	for i, m := range append(append(validMeshes(), sheets()[:60]...), invalidMeshes()...) {
		calls := append(mendingCalls(0.7, 2.5, 3), mendingCalls(2.5, 0.7, 2)...)
		calls = append(calls, mendingCalls(odd[i%len(odd)], odd[(i+9)%len(odd)], int64(i%70))...)
		places := []int64{math.MinInt64, -1, 0, 1, 2, 63, math.MaxInt64}
		for _, a := range places {
			for _, b := range places {
				calls = append(calls, edgeCalls(a, b, 0.3)...)
			}
			calls = append(calls, edgeCalls(0, 2, odd[(i+int(a&31))%len(odd)])...)
		}
		wantUntouched(t, i, m, calls)
	}
}

func TestFunctionsOfMendingFailForInvalidMeshes(t *testing.T) {
	wantFailures(t, append(mendingCalls(0.7, 2.5, 3), edgeCalls(0, 1, 0.5)...))
}

func TestFunctionsOfMendingReturnForAllNumbers(t *testing.T) {
	counts := []int64{math.MinInt64, -1, 0, 1, 64, 65, 1 << 32, math.MaxInt64}
	meshes := []impl.Mesh{bentGrid(), tetrahedron(), pillow(), fan(4), {}, someSheets(6)[2], someSheets(6)[5]}
	for i, m := range meshes {
		for _, x := range oddNumbers() {
			for _, call := range edgeCalls(0, 1, x) {
				twice(t, told(call.name, "of mesh", i, x), func() string { return call.tell(m) })
			}
			for j, y := range oddNumbers() {
				for _, call := range mendingCalls(x, y, counts[j%len(counts)]) {
					twice(t, told(call.name, "of mesh", i, x, y), func() string { return call.tell(m) })
				}
			}
		}
	}
}

// mendedMeshes call all functions whose result is a mesh, each in as many ways as matter.
func mendedMeshes(m impl.Mesh) map[string]func() impl.Mesh {
	results := map[string]func() impl.Mesh{
		"DropPlaces":    func() impl.Mesh { return first(impl.DropPlaces(m)) },
		"CutHole":       func() impl.Mesh { return first(impl.CutHole(m, 0)) },
		"CutHole last":  func() impl.Mesh { return first(impl.CutHole(m, int64(len(m.Triangles)-1))) },
		"MendOnce":      func() impl.Mesh { return first2(impl.MendOnce(m, -1, math.MaxFloat32)) },
		"MendOnce join": func() impl.Mesh { return first2(impl.MendOnce(m, math.MaxFloat32, math.MaxFloat32)) },
		"MendOnce none": func() impl.Mesh { return first2(impl.MendOnce(m, -1, 0.1)) },
		"MendMesh":      func() impl.Mesh { return first2(impl.MendMesh(m, 0.5, 2.5, 9)) },
		"MendMesh 0":    func() impl.Mesh { return first2(impl.MendMesh(m, 0.5, 2.5, 0)) },
	}
	edges, _ := countedEdges(m)
	for _, e := range edges[:min(12, len(edges))] {
		a, b := e[0], e[1]
		results[told("FlipEdge", a, b)] = func() impl.Mesh { return first(impl.FlipEdge(m, a, b)) }
		results[told("SplitEdge", a, b)] = func() impl.Mesh { return first(impl.SplitEdge(m, b, a, 0.5)) }
		results[told("JoinEdge", a, b)] = func() impl.Mesh { return first(impl.JoinEdge(m, b, a)) }
	}
	return results
}

func TestMendedMeshesShareNoMemoryWithOthers(t *testing.T) {
	for i, m := range append(validMeshes(), sheets()[:70]...) {
		argument := spare(m)
		before := whole(argument)
		for what, call := range mendedMeshes(argument) {
			spoilMesh(call())
			if after := whole(argument); after != before {
				t.Fatalf("%s of mesh %d shares memory with it: %s became %s", what, i, before, after)
			}
		}
		longest, _, _ := impl.LongestEdge(argument)
		spoil(longest)
		spoil(first(impl.ThinTriangles(argument, 1)))
		want(t, named("mesh", i), whole(argument), before)
	}
}

// TestListsOfAMendedMeshShareNoMemory spoils each list of a result and looks at the others.
func TestListsOfAMendedMeshShareNoMemory(t *testing.T) {
	for i, m := range []impl.Mesh{bentGrid(), mixedBody().Mesh, forms()[3], closedMeshes()[5], someSheets(9)[8]} {
		for what, call := range mendedMeshes(m) {
			wantMeshApart(t, told(what, "of mesh", i), call)
		}
	}
}

func TestListsOfMendingAreNewEachTime(t *testing.T) {
	m := bentGrid()
	lists := func() [][]int64 {
		longest, _, _ := impl.LongestEdge(m)
		shortest, _, _ := impl.ShortestEdge(m)
		best, _, _ := impl.BestFlip(m)
		_, acts, _ := impl.MendMesh(m, 1.2, 2.5, 64)
		return [][]int64{longest, shortest, best, acts, first(impl.ThinTriangles(m, 1))}
	}
	kept := lists()
	for i, list := range lists() {
		if len(list) == 0 {
			t.Errorf("list %d is empty", i)
		}
		spoil(list)
		want(t, "lists again", lists(), kept)
	}
}
