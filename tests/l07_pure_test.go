package tests

import (
	"math"
	"testing"

	"loop.example/g01222/impl"
)

// workersCalls call all functions of chapter 7 that take a body, with a number for all that is neither rounds nor workers.
func workersCalls(n, rounds, workers int64) []heldCall {
	return []heldCall{
		{"ColoursOf", func(h heldBody) string { return told(impl.ColoursOf(h.b)) }, noLists},
		{"CountColours", func(h heldBody) string { return told(impl.CountColours(h.b)) }, "0 false "},
		{"ColourClass", func(h heldBody) string { return told(impl.ColourClass(h.b, n)) }, noLists},
		{"AreColours", func(h heldBody) string { return told(impl.AreColours(h.b, h.held)) }, "false "},
		{"ProjectSpring", func(h heldBody) string { return told(impl.ProjectSpring(h.b, h.held, n)) }, noBody},
		{"SweepColour", func(h heldBody) string { return told(impl.SweepColour(h.b, h.held, h.held, n)) }, noBody},
		{"SweepColours", func(h heldBody) string { return told(impl.SweepColours(h.b, h.held, rounds)) }, noBody},
		{"SweepShared", func(h heldBody) string { return told(impl.SweepShared(h.b, h.held, rounds, workers)) }, noBody},
		{"BlockForces", func(h heldBody) string { return told(impl.BlockForces(h.b, n)) }, noLists},
		{"ForcesShared", func(h heldBody) string { return told(impl.ForcesShared(h.b, workers)) }, noLists},
		{"WorstSpring", func(h heldBody) string { return told(impl.WorstSpring(h.b)) }, "0 00000000 false "},
		{"BlockChecks", func(h heldBody) string { return told(impl.BlockChecks(h.b)) }, noLists},
	}
}

func TestFunctionsOfWorkersLeaveTheirArguments(t *testing.T) {
	numbers := []int64{math.MinInt64, -1, 0, 1, 8, 200, 201, math.MaxInt64}
	for i, h := range append(sweptBodies(), invalidHeldBodies()...) {
		var calls []heldCall
		for j := range 3 {
			calls = append(calls, workersCalls(numbers[(i+3*j)%len(numbers)], int64(i%4), int64(i+j)%10)...)
		}
		wantBodyUntouched(t, i, h, calls)
	}
}

func TestFunctionsOfColourListsLeaveTheirArguments(t *testing.T) {
	for i, h := range sweptBodies() {
		argument := spareHeldBody(h)
		colours := append(make([]int64, 0, len(h.b.Springs)+3), slowColours(h.b)...)
		before := told(colours[:cap(colours)]) + wholeHeldBody(argument)
		for colour := range int64(4) {
			twice(t, told("colour", colour, "of body", i), func() string {
				return told(impl.AreColours(argument.b, colours)) + told(impl.SweepColour(argument.b, argument.held, colours, colour))
			})
		}
		next, _ := impl.SweepColour(argument.b, argument.held, colours, 0)
		spoilBody(next)
		if after := told(colours[:cap(colours)]) + wholeHeldBody(argument); after != before {
			t.Errorf("the arguments of body %d are changed from %s to %s", i, before, after)
		}
	}
}

// TestFunctionsOfWorkersFailForInvalidBodies leaves out the functions that do not take held places if just these are not valid.
func TestFunctionsOfWorkersFailForInvalidBodies(t *testing.T) {
	takesHeld := map[string]bool{"ProjectSpring": true, "SweepColour": true, "SweepColours": true, "SweepShared": true}
	for i, h := range invalidHeldBodies() {
		for _, call := range workersCalls(0, 3, 2) {
			if impl.ValidBody(h.b) && !takesHeld[call.name] {
				continue
			}
			if got := call.tell(h); got != call.failed {
				t.Errorf("%s of the invalid body %d: %s", call.name, i, got)
			}
		}
	}
}

func TestFunctionsOfWorkersReturnForAllNumbers(t *testing.T) {
	numbers := []int64{math.MinInt64, math.MinInt64 + 8, -8, -1, 0, 1, 2, 7, 8, 9, 16, 40, 41, 56, 63, 64, 199, 200, 201, 256, 257, 1 << 32, math.MaxInt64 - 7, math.MaxInt64}
	bodies := []heldBody{{mixedBody(), []int64{1}}, {rope(), nil}, {net(), []int64{0, 63}}, {}, {impl.Body{}, []int64{0}}, {bodyOf(meshOf(9)), nil}}
	for i, h := range bodies {
		for _, n := range numbers {
			for _, m := range []int64{math.MinInt64, -1, 0, 1, 3, 8, 9, math.MaxInt64} {
				for _, call := range append(workersCalls(n, 2, m), workersCalls(n, n, 2)...) {
					twice(t, told(call.name, "of body", i, n, m), func() string { return call.tell(h) })
				}
				twice(t, told("SharesOf", n, m), func() string { return told(impl.SharesOf(n, m)) + told(impl.SharesOf(m, n)) })
			}
		}
	}
}

func TestResultsShareNoMemoryWithSweptBodies(t *testing.T) {
	for i, h := range sweptBodies() {
		argument := spareHeldBody(h)
		colours := slowColours(h.b)
		before := wholeHeldBody(argument)
		for rounds := range int64(2) {
			spoilBody(first(impl.SweepColours(argument.b, argument.held, rounds)))
			spoilBody(first(impl.SweepShared(argument.b, argument.held, rounds, 1+int64(i%8))))
		}
		spoilBody(first(impl.ProjectSpring(argument.b, argument.held, 0)))
		spoilBody(first(impl.SweepColour(argument.b, argument.held, colours, 0)))
		spoilBody(first(impl.SweepColour(argument.b, argument.held, colours, 200)))
		spoil(first(impl.ColoursOf(argument.b)))
		spoil(first(impl.ColourClass(argument.b, 0)))
		spoil(first(impl.BlockForces(argument.b, 0)))
		spoil(first(impl.ForcesShared(argument.b, 3)))
		spoil(first(impl.BlockChecks(argument.b)))
		if after := wholeHeldBody(argument); after != before {
			t.Errorf("a result shares memory with body %d: %s became %s", i, before, after)
		}
	}
}

// TestListsOfASweptBodyShareNoMemory spoils each list of a result and looks at the others.
func TestListsOfASweptBodyShareNoMemory(t *testing.T) {
	b, held, colours := mixedBody(), []int64{1, 4}, []int64{0, 1, 1, 0, 2}
	results := map[string]func() impl.Body{
		"ProjectSpring":      func() impl.Body { return first(impl.ProjectSpring(b, held, 0)) },
		"ProjectSpring held": func() impl.Body { return first(impl.ProjectSpring(b, []int64{0, 1}, 0)) },
		"SweepColour":        func() impl.Body { return first(impl.SweepColour(b, held, colours, 1)) },
		"SweepColour none":   func() impl.Body { return first(impl.SweepColour(b, held, colours, 3)) },
		"SweepColours":       func() impl.Body { return first(impl.SweepColours(b, held, 3)) },
		"SweepColours 0":     func() impl.Body { return first(impl.SweepColours(b, held, 0)) },
		"SweepShared":        func() impl.Body { return first(impl.SweepShared(b, held, 3, 2)) },
		"SweepShared 0":      func() impl.Body { return first(impl.SweepShared(b, held, 0, 8)) },
	}
	for what, call := range results {
		wantListsApart(t, what, call)
	}
}

func TestListsOfWorkersAreNewEachTime(t *testing.T) {
	b := net()
	lists := func() [][]int64 {
		list := [][]int64{first(impl.ColoursOf(b)), first(impl.ColourClass(b, 1)), first(impl.BlockChecks(b))}
		return append(list, first(impl.SharesOf(100, 8))...)
	}
	forces := func() [][]impl.Vector {
		return [][]impl.Vector{first(impl.BlockForces(b, 8)), first(impl.ForcesShared(b, 4))}
	}
	kept, keptForces := told(lists()), told(forces())
	for i, list := range lists() {
		if len(list) == 0 {
			t.Errorf("list %d is empty", i)
		}
		spoil(list)
		want(t, "lists again", told(lists()), kept)
	}
	for _, list := range forces() {
		spoil(list)
		want(t, "forces again", told(forces()), keptForces)
	}
	shares, again := first(impl.SharesOf(100, 8)), first(impl.SharesOf(100, 8))
	wantRowsApart(t, "shares", shares, again)
}
