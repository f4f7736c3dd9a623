package tests

import (
	"fmt"
	"math"
	"testing"

	"loop.example/g01222/impl"
)

type heldCall = callOf[heldBody]

// descentCalls call all functions of chapter 5 that take a body, with some number and some rounds.
func descentCalls(x float32, rounds int64) []heldCall {
	still := func(h heldBody) impl.Motion {
		return impl.Motion{Body: h.b, Speeds: make([]impl.Vector, len(h.b.Mesh.Places))}
	}
	return []heldCall{
		{"IsHeld", func(h heldBody) string { return told(impl.IsHeld(h.b, h.held)) }, "false "},
		{"FreeForces", func(h heldBody) string { return told(impl.FreeForces(h.b, h.held)) }, noLists},
		{"RestOf", func(h heldBody) string { return told(impl.RestOf(h.b, h.held)) }, noNumber},
		{"StepDown", func(h heldBody) string { return told(impl.StepDown(h.b, h.held, x)) }, "{{[] []} [] 0 0 [] {0 0 0}} 0 false false "},
		{"RunDown", func(h heldBody) string { return told(impl.RunDown(h.b, h.held, x, rounds)) }, "{{[] []} [] 0 0 [] {0 0 0}} (0) false "},
		{"TurnDown", func(h heldBody) string { return told(impl.TurnDown(h.b, h.held, x, rounds)) }, "{{[] []} [] 0 0 [] {0 0 0}} 0 false "},
		{"StepMotion", func(h heldBody) string { return told(swing{h.held, x, 0.9, 0.1}.step(still(h))) }, noMotion},
		{"StepMotion damp", func(h heldBody) string { return told(swing{h.held, 1, x, 0.1}.step(still(h))) }, noMotion},
		{"RunMotion", func(h heldBody) string { return told(swing{h.held, 1, 0.9, x}.run(still(h), rounds)) }, noMotions},
	}
}

const (
	noMotion  = "{{{[] []} [] 0 0 [] {0 0 0}} []} false "
	noMotions = "{{{[] []} [] 0 0 [] {0 0 0}} []} (0) false "
)

func spareHeldBody(h heldBody) heldBody {
	return heldBody{spareBody(h.b), append(make([]int64, 0, len(h.held)+3), h.held...)}
}

func wholeHeldBody(h heldBody) string { return wholeBody(h.b) + told(h.held[:cap(h.held)]) }

// wantBodyUntouched asks that functions leave a body and its held places as they are, and tell the same of equal ones.
func wantBodyUntouched(t *testing.T, i int, h heldBody, calls []heldCall) {
	t.Helper()
	wantLeft(t, named("held body", i), spareHeldBody(h), h, wholeHeldBody, calls)
}

func TestFunctionsOfDescentLeaveTheirArguments(t *testing.T) {
	for i, h := range append(append(validHeldBodies(), anyHeldBodies()[:100]...), invalidHeldBodies()...) {
		for _, x := range []float32{0.2, float32(i), oddNumbers()[i%len(oddNumbers())]} {
			wantBodyUntouched(t, i, h, descentCalls(x, int64(i%5)))
		}
	}
}

func TestFunctionsOfDescentFailForInvalidBodies(t *testing.T) {
	for i, h := range invalidHeldBodies() {
		for _, call := range descentCalls(1, 3) {
			if got := call.tell(h); got != call.failed {
				t.Errorf("%s of the invalid body %d: %s", call.name, i, got)
			}
		}
	}
}

func TestFunctionsOfDescentReturnForAllNumbers(t *testing.T) {
	counts := []int64{math.MinInt64, -1, 0, 1, 40, 41, 1 << 32, math.MaxInt64}
	bodies := []heldBody{{mixedBody(), []int64{1}}, {crowdedBody(), nil}, {bar(3, 1), []int64{0}}, {}, {impl.Body{}, []int64{0}}}
	for i, h := range bodies {
		for _, x := range oddNumbers() {
			for _, rounds := range counts {
				for _, call := range descentCalls(x, rounds) {
					twice(t, told(call.name, "of body", i, x, rounds), func() string { return call.tell(h) })
				}
			}
		}
	}
}

func TestFunctionsOfMotionsLeaveTheirArguments(t *testing.T) {
	d := dice(12)
	odd := oddNumbers()
	list := invalidMotions()
	for _, b := range validBodies() {
		list = append(list, d.motionOf(b, d.number), d.motionOf(b, func() float32 { return odd[d.below(len(odd))] }))
	}
	for i, m := range list {
		held := append(make([]int64, 0, 70), d.some(m.Body, 3)...)
		wholeArguments := func(m impl.Motion) string {
			return wholeBody(m.Body) + told(m.Speeds[:cap(m.Speeds)], held[:cap(held)])
		}
		s := swing{held, 0.5, 0.9, 0.2}
		calls := []callOf[impl.Motion]{
			{name: "ValidMotion", tell: func(m impl.Motion) string { return told(impl.ValidMotion(m)) }},
			{name: "StillMotion", tell: func(m impl.Motion) string { return told(impl.StillMotion(m.Body)) }},
			{name: "SpeedEnergy", tell: func(m impl.Motion) string { return told(impl.SpeedEnergy(m, 0.7)) }},
			{name: "StepMotion", tell: func(m impl.Motion) string { return told(s.step(m)) }},
			{name: "RunMotion", tell: func(m impl.Motion) string { return told(s.run(m, int64(i%4))) }},
		}
		wantLeft(t, named("motion", i), spareMotion(m), m, wholeArguments, calls)
	}
}

func TestInnerAllLeavesItsArguments(t *testing.T) {
	lists, kept := oddVectors(), oddVectors()
	for i, a := range lists {
		for _, b := range lists {
			twice(t, fmt.Sprintf("lists of %d and %d", len(a), len(b)), func() string { return told(impl.InnerAll(a, b)) })
		}
		if told(a[:cap(a)]) != told(kept[i][:cap(a)]) {
			t.Errorf("a list of %d vectors is changed", len(a))
		}
	}
}

func spoilMotion(m impl.Motion) {
	spoilBody(m.Body)
	spoil(m.Speeds)
}

func TestResultsShareNoMemoryWithHeldBodies(t *testing.T) {
	for i, h := range append(validHeldBodies(), anyHeldBodies()[:60]...) {
		argument := spareHeldBody(h)
		m := spareMotion(impl.Motion{Body: argument.b, Speeds: repeat(vec(1, 2, 3), len(h.b.Mesh.Places))})
		before := wholeHeldBody(argument) + wholeBody(m.Body) + told(m.Speeds[:cap(m.Speeds)])
		// A step may help or not, and there may be no rounds.
		for _, step := range []float32{0.01, 1e20, 1e-30} {
			next, _, _, _ := impl.StepDown(argument.b, argument.held, step)
			spoilBody(next)
			for rounds := range int64(3) {
				end, energies, _ := impl.RunDown(argument.b, argument.held, step, rounds)
				spoilBody(end)
				spoil(energies)
				spoilBody(first2(impl.TurnDown(argument.b, argument.held, step, rounds)))
				moved, energies, _ := swing{argument.held, 1, 1, step}.run(m, rounds)
				spoilMotion(moved)
				spoil(energies)
			}
			spoilMotion(first(swing{argument.held, 1, 1, step}.step(m)))
		}
		spoil(first(impl.FreeForces(argument.b, argument.held)))
		spoilMotion(first(impl.StillMotion(argument.b)))
		if after := wholeHeldBody(argument) + wholeBody(m.Body) + told(m.Speeds[:cap(m.Speeds)]); after != before {
			t.Errorf("a result shares memory with body %d: %s became %s", i, before, after)
		}
	}
}

// TestListsOfADescentShareNoMemory spoils each list of a result and looks at the others.
func TestListsOfADescentShareNoMemory(t *testing.T) {
	b, held := mixedBody(), []int64{1, 4}
	m := impl.Motion{Body: b, Speeds: repeat(vec(1, 2, 3), 6)}
	motion := func(b impl.Body) impl.Motion { return impl.Motion{Body: b} }
	results := map[string]func() impl.Motion{
		"StepDown":         func() impl.Motion { next, _, _, _ := impl.StepDown(b, held, 0.1); return motion(next) },
		"StepDown in vain": func() impl.Motion { next, _, _, _ := impl.StepDown(b, held, 1e-30); return motion(next) },
		"RunDown":          func() impl.Motion { return motion(first2(impl.RunDown(b, held, 0.1, 4))) },
		"RunDown 0":        func() impl.Motion { return motion(first2(impl.RunDown(b, held, 0.1, 0))) },
		"TurnDown":         func() impl.Motion { return motion(first2(impl.TurnDown(b, held, 0.1, 4))) },
		"TurnDown 0":       func() impl.Motion { return motion(first2(impl.TurnDown(b, held, 0.1, 0))) },
		"StillMotion":      func() impl.Motion { return first(impl.StillMotion(b)) },
		"StepMotion":       func() impl.Motion { return first(impl.StepMotion(m, held, 1, 1, 0.1)) },
		"RunMotion":        func() impl.Motion { return first2(impl.RunMotion(m, held, 1, 1, 0.1, 4)) },
		"RunMotion 0":      func() impl.Motion { return first2(impl.RunMotion(m, held, 1, 1, 0.1, 0)) },
	}
	for what, call := range results {
		kept, spoiled := call(), call()
		triangles := spoiled.Body.Mesh.Triangles
		for i := range triangles {
			spoil(append(triangles[i], 7, 7, 7))
			spoil(triangles[i])
			want(t, fmt.Sprintf("%s, triangles behind %d", what, i), triangles[i+1:], kept.Body.Mesh.Triangles[i+1:])
		}
		spoil(spoiled.Body.Mesh.Places)
		want(t, what+", speeds", spoiled.Speeds, kept.Speeds)
		want(t, what+", springs", spoiled.Body.Springs, kept.Body.Springs)
		want(t, what+", weights", spoiled.Body.Weights, kept.Body.Weights)
		spoil(spoiled.Speeds)
		spoil(spoiled.Body.Springs)
		spoil(spoiled.Body.Weights)
		want(t, what+" again", call(), kept)
	}
	lists := func() ([]impl.Vector, []float32) {
		_, energies, _ := impl.RunDown(b, held, 0.1, 3)
		return first(impl.FreeForces(b, held)), energies
	}
	forces, energies := lists()
	kept := told(forces, energies)
	spoil(forces)
	spoil(energies)
	forces, energies = lists()
	want(t, "lists again", told(forces, energies), kept)
}
