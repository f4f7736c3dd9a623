package tests

import (
	"fmt"
	"math"
	"testing"

	"loop.example/g01222/impl"
)

// gasCalls call all functions of chapter 4 that take a mesh and no holds.
func gasCalls() []meshCall {
	places := func(m impl.Mesh) []impl.Vector { return repeat(vec(1, -2, 3), len(m.Places)) }
	return []meshCall{
		{"AreHolds", func(m impl.Mesh) string { return told(impl.AreHolds(m, nil)) }, "false "},
		{"HoldForces", func(m impl.Mesh) string { return told(impl.HoldForces(m, nil, places(m))) }, noLists},
		{"HoldMesh", func(m impl.Mesh) string { return told(impl.HoldMesh(m, nil)) }, noMesh},
		{"OffHolds", func(m impl.Mesh) string { return told(impl.OffHolds(m, nil)) }, noNumber},
		{"FreePlaces", func(m impl.Mesh) string { return told(impl.FreePlaces(m, nil)) }, noLists},
		{"HoldBorder", func(m impl.Mesh) string { return told(impl.HoldBorder(m)) }, noLists},
		{"IsClosed", func(m impl.Mesh) string { return told(impl.IsClosed(m)) }, "false "},
		{"VolumeOf", func(m impl.Mesh) string { return told(impl.VolumeOf(m)) }, noNumber},
		{"GasForces", func(m impl.Mesh) string { return told(impl.GasForces(m, 0.7)) }, noLists},
		{"CentreOf", func(m impl.Mesh) string { return told(impl.CentreOf(m)) }, noVector},
		{"KeepVolume", func(m impl.Mesh) string { return told(impl.KeepVolume(m, 1.5)) }, noMesh},
		{"TorqueOf", func(m impl.Mesh) string { return told(impl.TorqueOf(m, places(m))) }, noVector},
	}
}

func TestFunctionsOfGasesLeaveTheirArguments(t *testing.T) {
	meshes := append(append(oddMeshes(), invalidMeshes()...), append(closedMeshes(), openMeshes()...)...)
	for i, m := range meshes {
		wantUntouched(t, i, m, gasCalls())
	}
}

func TestFunctionsOfGasesFailForInvalidMeshes(t *testing.T) { wantFailures(t, gasCalls()) }

// spareHeld copies a mesh and its holds so that each list has unused capacity.
func spareHeld(h heldMesh) heldMesh {
	return heldMesh{spare(h.m), append(make([]impl.Hold, 0, len(h.holds)+3), h.holds...)}
}

func wholeHeld(h heldMesh) string { return whole(h.m) + told(h.holds[:cap(h.holds)]) }

func TestFunctionsOfHoldsLeaveTheirArguments(t *testing.T) {
	for i, h := range append(validHeld(), invalidHeld()...) {
		forces := append(make([]impl.Vector, 0, len(h.m.Places)+3), manyForces(h.m)...)
		wholeArguments := func(h heldMesh) string { return wholeHeld(h) + told(forces[:cap(forces)]) }
		calls := []callOf[heldMesh]{
			{name: "AreHolds", tell: func(h heldMesh) string { return told(impl.AreHolds(h.m, h.holds)) }},
			{name: "HoldForces", tell: func(h heldMesh) string { return told(impl.HoldForces(h.m, h.holds, forces)) }},
			{name: "HoldMesh", tell: func(h heldMesh) string { return told(impl.HoldMesh(h.m, h.holds)) }},
			{name: "OffHolds", tell: func(h heldMesh) string { return told(impl.OffHolds(h.m, h.holds)) }},
			{name: "FreePlaces", tell: func(h heldMesh) string { return told(impl.FreePlaces(h.m, h.holds)) }},
			{name: "TorqueOf", tell: func(h heldMesh) string { return told(impl.TorqueOf(h.m, forces)) }},
			{name: "NetForce", tell: func(heldMesh) string { return told(impl.NetForce(forces)) }},
		}
		wantLeft(t, named("mesh with holds", i), spareHeld(h), h, wholeArguments, calls)
	}
}

func TestFunctionsOfOneHoldReturnEqualResults(t *testing.T) {
	odd := oddNumbers()
	list := append(validHolds(), invalidHolds()...)
	for _, x := range odd {
		for kind := int64(-1); kind < 4; kind++ {
			list = append(list, impl.Hold{Kind: kind, At: vec(x, 1, 2), Way: vec(1, x, 2)}, impl.Hold{Place: math.MinInt64, Kind: kind, Way: vec(x, x, x)})
		}
	}
	for _, h := range list {
		for i, x := range odd {
			v := vec(odd[(i+9)%len(odd)], x, odd[(i+16)%len(odd)])
			twice(t, told("hold", h, v), func() string {
				return told(impl.IsHold(h)) + told(impl.HoldForce(h, v)) + told(impl.HoldPlace(h, v))
			})
		}
	}
	for _, x := range odd {
		for _, y := range odd {
			twice(t, told("gas", x, y), func() string { return told(impl.PressureOf(x, y)) + told(impl.GasEnergy(x, y)) })
		}
		for i, m := range validMeshes() {
			twice(t, told("gas", i, x), func() string { return told(impl.GasForces(m, x)) + told(impl.KeepVolume(m, x)) })
		}
	}
}

func TestFunctionsOfForcesLeaveTheirArguments(t *testing.T) {
	lists, kept := oddVectors(), oddVectors()
	h := mixedHeld()
	for i, list := range lists {
		twice(t, fmt.Sprintf("list of %d forces", len(list)), func() string {
			return told(impl.NetForce(list)) + told(impl.TorqueOf(h.m, list)) + told(impl.HoldForces(h.m, h.holds, list)) +
				told(impl.TorqueOf(meshOf(64), list)) + told(impl.HoldForces(meshOf(64), h.holds, list))
		})
		if told(list[:cap(list)]) != told(kept[i][:cap(list)]) {
			t.Errorf("a list of %d forces is changed", len(list))
		}
	}
}

func TestResultsShareNoMemoryWithHolds(t *testing.T) {
	list := validHeld()
	for _, m := range append(closedMeshes(), openMeshes()...) {
		list = append(list, heldMesh{m: m})
	}
	for i, h := range list {
		argument := spareHeld(h)
		forces := append(make([]impl.Vector, 0, len(h.m.Places)+3), manyForces(h.m)...)
		before := wholeHeld(argument) + told(forces[:cap(forces)])
		for _, holds := range [][]impl.Hold{argument.holds, nil} {
			spoil(first(impl.HoldForces(argument.m, holds, forces)))
			spoilMesh(first(impl.HoldMesh(argument.m, holds)))
			spoil(first(impl.FreePlaces(argument.m, holds)))
		}
		spoil(first(impl.HoldBorder(argument.m)))
		spoil(first(impl.GasForces(argument.m, 1)))
		volume, _ := impl.VolumeOf(argument.m)
		spoilMesh(first(impl.KeepVolume(argument.m, volume)))
		spoilMesh(first(impl.KeepVolume(argument.m, 2*volume)))
		if after := wholeHeld(argument) + told(forces[:cap(forces)]); after != before {
			t.Errorf("a result shares memory with mesh %d: %s became %s", i, before, after)
		}
	}
}

// TestListsOfAHeldMeshShareNoMemory spoils each list of a result and looks at the others.
func TestListsOfAHeldMeshShareNoMemory(t *testing.T) {
	h := mixedHeld()
	box, _ := impl.BoxMesh(2)
	results := map[string]func() impl.Mesh{
		"HoldMesh":   func() impl.Mesh { return first(impl.HoldMesh(h.m, h.holds)) },
		"KeepVolume": func() impl.Mesh { return first(impl.KeepVolume(box, 3)) },
	}
	for what, call := range results {
		wantMeshApart(t, what, call)
	}
	lists := func() string {
		return told(impl.HoldForces(h.m, h.holds, make([]impl.Vector, 6))) + told(impl.FreePlaces(h.m, h.holds)) +
			told(impl.HoldBorder(h.m)) + told(impl.GasForces(h.m, 2))
	}
	before := lists()
	spoil(first(impl.HoldForces(h.m, h.holds, make([]impl.Vector, 6))))
	spoil(first(impl.FreePlaces(h.m, h.holds)))
	spoil(first(impl.HoldBorder(h.m)))
	spoil(first(impl.GasForces(h.m, 2)))
	want(t, "lists again", lists(), before)
}
