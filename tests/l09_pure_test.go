package tests

import (
	"math"
	"testing"

	"loop.example/g01222/impl"
)

type swayCall = callOf[sway]

const noMode = "[] 00000000 false "

// swayCalls call all functions of chapter 9 that take a body, with some number and some rounds.
func swayCalls(x float32, rounds int64) []swayCall {
	return []swayCall{
		{"StiffTimes", func(s sway) string { return told(s.times(x)) }, noLists},
		{"RayleighOf", func(s sway) string { return told(s.rayleigh(x)) }, noNumber},
		{"GreatMode", func(s sway) string { return told(s.great(x, rounds)) }, noMode},
		{"SoftMode", func(s sway) string { return told(s.soft(x, 3, rounds)) }, noMode},
		{"SoftMode shift", func(s sway) string { return told(s.soft(0.125, x, rounds)) }, noMode},
		{"NextMode", func(s sway) string { return told(s.next(x, rounds)) }, noMode},
		{"CanBuckle", func(s sway) string { return told(s.buckles(x, 3, rounds)) }, "false false "},
		{"CanBuckle shift", func(s sway) string { return told(s.buckles(0.125, x, rounds)) }, "false false "},
		{"EnergiesAlong", func(s sway) string { return told(s.energies(x, rounds)) }, "(0) false "},
		{"PushedBody", func(s sway) string { return told(s.pushed(-2, x)) }, noBody},
		{"PushedBody size", func(s sway) string { return told(s.pushed(x, 0.125)) }, noBody},
	}
}

// listCalls call the functions that take just lists.
func listCalls() []swayCall {
	return []swayCall{
		{"NormVectors", func(s sway) string { return told(impl.NormVectors(s.v)) }, noLists},
		{"WithoutPart", func(s sway) string { return told(impl.WithoutPart(s.v, s.first)) }, noLists},
	}
}

// spareList copies a list so that it has unused capacity.
func spareList(list []impl.Vector) []impl.Vector {
	return append(make([]impl.Vector, 0, len(list)+3), list...)
}

func spareSway(s sway) sway {
	h := spareHeldBody(heldBody{s.b, s.held})
	return sway{h.b, h.held, spareList(s.v), spareList(s.first)}
}

func wholeSway(s sway) string {
	return wholeHeldBody(heldBody{s.b, s.held}) + told(s.v[:cap(s.v)], s.first[:cap(s.first)])
}

// wantSwayUntouched asks that functions leave their arguments as they are, and tell the same of equal ones.
func wantSwayUntouched(t *testing.T, i int, s sway, calls []swayCall) {
	t.Helper()
	wantLeft(t, named("held body with lists", i), spareSway(s), s, wholeSway, calls)
}

func TestFunctionsOfModesLeaveTheirArguments(t *testing.T) {
	list := append(append(allSways()[:900], oddSways()[900:1500]...), append(invalidSways(), misfits()...)...)
	for i, s := range list {
		wantSwayUntouched(t, i, s, listCalls())
		for _, x := range []float32{0.25, oddNumbers()[i%len(oddNumbers())]} {
			wantSwayUntouched(t, i, s, swayCalls(x, int64(i%4)))
		}
	}
}

func TestFunctionsOfModesFailForInvalidBodies(t *testing.T) {
	for i, s := range invalidSways() {
		for _, rounds := range []int64{0, 1, 40} {
			for _, call := range swayCalls(1, rounds) {
				withoutHolds := call.name == "EnergiesAlong" || call.name == "PushedBody" || call.name == "PushedBody size"
				if withoutHolds && impl.ValidBody(s.b) {
					continue
				}
				if got := call.tell(s); got != call.failed {
					t.Errorf("%s of the invalid body %d: %s", call.name, i, got)
				}
			}
		}
	}
}

func TestFunctionsOfModesReturnForAllNumbers(t *testing.T) {
	counts := []int64{math.MinInt64, -1, 0, 1, 40, 41, 1 << 32, math.MaxInt64}
	crowded := mixedSway(2)
	crowded.b = crowdedBody()
	list := []sway{mixedSway(1), crowded, barSway(bar(3, 1), vec(1, 2, 3)), barSway(bar(1, 2), vec(num(inf), num(nan), 1)), {}, {held: []int64{0}}}
	for i, s := range list {
		for _, x := range oddNumbers() {
			for _, rounds := range counts {
				for _, call := range swayCalls(x, rounds) {
					twice(t, told(call.name, "of body", i, x, rounds), func() string { return call.tell(s) })
				}
			}
			for _, y := range oddNumbers() {
				twice(t, told("swing of", x, y), func() string { return told(impl.SwingOf(x, y)) })
			}
		}
	}
}

func TestFunctionsOfModesReturnForAllLists(t *testing.T) {
	lists := oddVectors()
	for i, v := range lists {
		for j, first := range lists {
			s := sway{bodyOf(meshOf(64)), []int64{3}, v, first}
			what := told("lists", i, j)
			twice(t, what, func() string {
				text := ""
				for _, call := range append(listCalls(), swayCalls(0.5, 2)...) {
					text += call.tell(s)
				}
				return text
			})
		}
	}
	want(t, "lists", lists, oddVectors())
}

func TestModesShareNoMemoryWithTheirArguments(t *testing.T) {
	for i, s := range append(append(nets(), usualSways()[:300]...), oddSways()[:300]...) {
		argument := spareSway(s)
		before := wholeSway(argument)
		for _, rounds := range []int64{0, 1, 3} {
			spoil(first2(argument.great(0.125, rounds)))
			spoil(first2(argument.soft(0.125, 4, rounds)))
			spoil(first2(argument.next(0.125, rounds)))
		}
		spoil(first(argument.times(0.125)))
		spoil(first(argument.energies(0.125, 2)))
		spoil(first(impl.NormVectors(argument.v)))
		spoil(append(first(impl.WithoutPart(argument.v, argument.first)), vec(7, 7, 7)))
		spoil(first(impl.WithoutPart(argument.v, argument.first)))
		spoil(append(first(impl.WithoutPart(argument.v[:0], argument.first[:0])), vec(7, 7, 7)))
		for _, size := range []float32{0, 1, -1} {
			spoilBody(first(argument.pushed(size, 0.5)))
		}
		if after := wholeSway(argument); after != before {
			t.Errorf("a result shares memory with body %d: %s became %s", i, before, after)
		}
	}
}

// TestModesAreNewEachTime spoils results and looks at the next ones.
func TestModesAreNewEachTime(t *testing.T) {
	s := mixedSway(1, 4)
	lists := map[string]func() []impl.Vector{
		"StiffTimes":  func() []impl.Vector { return first(s.times(0.25)) },
		"GreatMode":   func() []impl.Vector { return first2(s.great(0.25, 3)) },
		"GreatMode 0": func() []impl.Vector { return first2(s.great(0.25, 0)) },
		"SoftMode":    func() []impl.Vector { return first2(s.soft(0.25, 9, 3)) },
		"NextMode":    func() []impl.Vector { return first2(s.next(0.25, 3)) },
		"NormVectors": func() []impl.Vector { return first(impl.NormVectors(s.v)) },
		"WithoutPart": func() []impl.Vector { return first(impl.WithoutPart(s.v, s.first)) },
	}
	for what, call := range lists {
		kept, spoiled := call(), call()
		if len(kept) != 6 {
			t.Errorf("%s has %d vectors", what, len(kept))
		}
		spoil(spoiled)
		want(t, what+" again", call(), kept)
	}
	kept, _ := s.energies(0.25, 2)
	spoiled, _ := s.energies(0.25, 2)
	spoil(spoiled)
	want(t, "EnergiesAlong again", first(s.energies(0.25, 2)), kept)
	wantListsApart(t, "PushedBody", func() impl.Body { return first(s.pushed(0.5, 0.25)) })
	wantListsApart(t, "PushedBody back", func() impl.Body { return first(s.pushed(-0.5, 0.25)) })
}
