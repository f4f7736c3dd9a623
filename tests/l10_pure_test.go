package tests

import (
	"math"
	"testing"

	"loop.example/g01222/impl"
)

type clothCall = callOf[impl.Cloth]

const noCloth = "{[] [] [] []} false "

// clothCalls call all functions of chapter 10 that take a cloth, with some number and some counts.
func clothCalls(x float32, n, steps int64) []clothCall {
	other, v := mixedCloth(1, 4), vec(x, 0.5, -1)
	b := blow{fall: v, keep: 0.5, rounds: n, centre: vec(0, x, 0), radius: 1.5}
	ball := blow{fall: vec(0, 0, -1), keep: x, rounds: 1, centre: vec(0, 0, 0), radius: x}
	return []clothCall{
		{"ValidCloth", func(c impl.Cloth) string { return told(impl.ValidCloth(c)) }, "false "},
		{"SameCloth", func(c impl.Cloth) string { return told(impl.SameCloth(c, other)) }, "false "},
		{"SameCloth second", func(c impl.Cloth) string { return told(impl.SameCloth(other, c)) }, "false "},
		{"PinCloth", func(c impl.Cloth) string { return told(impl.PinCloth(c, c.Pinned)) }, noCloth},
		{"PinCloth other", func(c impl.Cloth) string { return told(impl.PinCloth(c, []int64{n})) }, noCloth},
		{"MoveCloth", func(c impl.Cloth) string { return told(impl.MoveCloth(c, v)) }, noCloth},
		{"FallCloth", func(c impl.Cloth) string { return told(impl.FallCloth(c, v, 0.5)) }, noCloth},
		{"FallCloth keep", func(c impl.Cloth) string { return told(impl.FallCloth(c, vec(0, 0, 1), x)) }, noCloth},
		{"PullThread", func(c impl.Cloth) string { return told(impl.PullThread(c, n)) }, noCloth},
		{"RelaxCloth", func(c impl.Cloth) string { return told(impl.RelaxCloth(c, n)) }, noCloth},
		{"DrapeCloth", func(c impl.Cloth) string { return told(impl.DrapeCloth(c, v, 2)) }, noCloth},
		{"DrapeCloth radius", func(c impl.Cloth) string { return told(impl.DrapeCloth(c, vec(0, 0, 0), x)) }, noCloth},
		{"FloorCloth", func(c impl.Cloth) string { return told(impl.FloorCloth(c, x)) }, noCloth},
		{"StepCloth", func(c impl.Cloth) string { return told(b.step(c)) }, noCloth},
		{"StepCloth ball", func(c impl.Cloth) string { return told(ball.step(c)) }, noCloth},
		{"RunCloth", func(c impl.Cloth) string { return told(b.run(c, steps)) }, noCloth},
		{"RunCloth ball", func(c impl.Cloth) string { return told(ball.run(c, steps)) }, noCloth},
		{"StretchOf", func(c impl.Cloth) string { return told(impl.StretchOf(c)) }, noNumber},
		{"TearCloth", func(c impl.Cloth) string { return told(impl.TearCloth(c, x)) }, "{[] [] [] []} 0 false "},
		{"PiecesOfCloth", func(c impl.Cloth) string { return told(impl.PiecesOfCloth(c)) }, "[] 0 false "},
		{"InsideBall", func(c impl.Cloth) string { return told(impl.InsideBall(c, v, 2)) }, noLists},
		{"InsideBall radius", func(c impl.Cloth) string { return told(impl.InsideBall(c, vec(0, 0, 0), x)) }, noLists},
	}
}

func TestFunctionsOfClothsLeaveTheirArguments(t *testing.T) {
	for i, c := range append(validCloths(), invalidCloths()...) {
		var calls []clothCall
		for _, x := range []float32{1.5, oddNumbers()[i%len(oddNumbers())]} {
			calls = append(calls, clothCalls(x, int64(i%4), int64(i%3))...)
		}
		wantLeft(t, named("cloth", i), spareCloth(c), c, wholeCloth, calls)
	}
}

func TestFunctionsOfClothsFailForInvalidOnes(t *testing.T) {
	for i, c := range invalidCloths() {
		for _, call := range append(clothCalls(1, 0, 1), clothCalls(2, 0, 0)...) {
			if got := call.tell(c); got != call.failed {
				t.Errorf("%s of the invalid cloth %d: %s", call.name, i, got)
			}
		}
	}
}

func TestFunctionsOfClothsReturnForAllNumbers(t *testing.T) {
	counts := []int64{math.MinInt64, -1, 0, 1, 7, 40, 41, 64, 256, 1 << 32, math.MaxInt64}
	far := threadAt(vec(num(inf), num(nan), 0), vec(num(negInf), 1e38, num(1)), num(1), 1)
	for i, c := range []impl.Cloth{{}, mixedCloth(1, 4), far, looseCloth(64), pinnedAt(impl.Cloth{}, 0)} {
		for _, x := range oddNumbers() {
			for j, n := range counts {
				for _, call := range clothCalls(x, n, counts[(j*7+3)%len(counts)]) {
					twice(t, told(call.name, "of cloth", i, x, n), func() string { return call.tell(c) })
				}
			}
		}
	}
	for _, x := range oddNumbers() {
		for _, wide := range counts {
			for _, high := range counts {
				twice(t, told("GridCloth", wide, high, x), func() string { return told(impl.GridCloth(wide, high, x)) })
			}
		}
	}
}

func TestClothsOfMeshesLeaveTheirArguments(t *testing.T) {
	calls := []meshCall{{"ClothOf", func(m impl.Mesh) string { return told(impl.ClothOf(m)) }, noCloth}}
	for i, m := range append(append(validMeshes(), forms()...), invalidMeshes()...) {
		wantUntouched(t, i, m, calls)
	}
	wantFailures(t, calls)
}

func TestPinClothLeavesThePins(t *testing.T) {
	for _, pinned := range [][]int64{nil, {}, {0}, {1, 4}, {0, 1, 2, 3, 4, 5}, {5, 1}, {6}} {
		own := append(make([]int64, 0, len(pinned)+3), pinned...)
		before := told(own[:cap(own)])
		c, _ := impl.PinCloth(mixedCloth(2), own)
		want(t, told("pins", pinned), told(own[:cap(own)]), before)
		spoilCloth(c)
		want(t, told("pins", pinned, "of a spoiled cloth"), told(own[:cap(own)]), before)
	}
}

// spoilCloth writes over all that a cloth holds and could hold.
func spoilCloth(c impl.Cloth) {
	spoil(c.Places)
	spoil(c.Olds)
	spoil(c.Threads)
	spoil(c.Pinned)
}

// changedCloths call all functions that return a cloth made of another one, and those that change nothing.
func changedCloths(c impl.Cloth) map[string]func() impl.Cloth {
	b := blow{fall: vec(0.1, 0.2, -0.3), keep: 0.5, rounds: 2, radius: 0.75}
	return map[string]func() impl.Cloth{
		"PinCloth":        func() impl.Cloth { return first(impl.PinCloth(c, c.Pinned)) },
		"MoveCloth":       func() impl.Cloth { return first(impl.MoveCloth(c, vec(1, 2, 3))) },
		"MoveCloth by +0": func() impl.Cloth { return first(impl.MoveCloth(c, vec(0, 0, 0))) },
		"FallCloth":       func() impl.Cloth { return first(impl.FallCloth(c, vec(1, 2, 3), 1)) },
		"PullThread":      func() impl.Cloth { return first(impl.PullThread(c, 0)) },
		"RelaxCloth":      func() impl.Cloth { return first(impl.RelaxCloth(c, 2)) },
		"RelaxCloth 0":    func() impl.Cloth { return first(impl.RelaxCloth(c, 0)) },
		"DrapeCloth":      func() impl.Cloth { return first(impl.DrapeCloth(c, vec(0, 0, 0), 2)) },
		"DrapeCloth far":  func() impl.Cloth { return first(impl.DrapeCloth(c, vec(99, 0, 0), 2)) },
		"FloorCloth":      func() impl.Cloth { return first(impl.FloorCloth(c, 0.5)) },
		"FloorCloth low":  func() impl.Cloth { return first(impl.FloorCloth(c, num(negInf))) },
		"StepCloth":       func() impl.Cloth { return first(b.step(c)) },
		"RunCloth":        func() impl.Cloth { return first(b.run(c, 3)) },
		"RunCloth 0":      func() impl.Cloth { return first(b.run(c, 0)) },
		"TearCloth":       func() impl.Cloth { return first2(impl.TearCloth(c, 1.5)) },
		"TearCloth none":  func() impl.Cloth { return first2(impl.TearCloth(c, num(inf))) },
		"TearCloth all":   func() impl.Cloth { return first2(impl.TearCloth(c, -1)) },
	}
}

func TestResultsShareNoMemoryWithCloths(t *testing.T) {
	for i, c := range validCloths() {
		argument := spareCloth(c)
		before := wholeCloth(argument)
		for _, call := range changedCloths(argument) {
			spoilCloth(call())
		}
		pieces, _, _ := impl.PiecesOfCloth(argument)
		spoil(pieces)
		spoil(first(impl.InsideBall(argument, vec(0, 0, 0), 3)))
		if after := wholeCloth(argument); after != before {
			t.Errorf("a result shares memory with cloth %d: %s became %s", i, before, after)
		}
	}
	for i, m := range forms() {
		argument := spare(m)
		spoilCloth(first(impl.ClothOf(argument)))
		want(t, named("form", i), whole(argument), whole(spare(m)))
	}
}

// TestListsOfAClothShareNoMemory spoils each list of a result and looks at the others, and at the next result.
func TestListsOfAClothShareNoMemory(t *testing.T) {
	grid, _ := impl.GridMesh(2, 3, 0.5)
	results := changedCloths(mixedCloth(1, 4))
	results["GridCloth"] = func() impl.Cloth { return first(impl.GridCloth(2, 3, 0.5)) }
	results["ClothOf"] = func() impl.Cloth { return first(impl.ClothOf(grid)) }
	for what, call := range results {
		kept, spoiled := call(), call()
		if len(kept.Places) < 6 {
			t.Errorf("%s has %d places", what, len(kept.Places))
		}
		spoil(spoiled.Places)
		want(t, what+", Olds", spoiled.Olds, kept.Olds)
		spoil(spoiled.Olds)
		want(t, what+", threads", spoiled.Threads, kept.Threads)
		want(t, what+", pins", spoiled.Pinned, kept.Pinned)
		spoil(spoiled.Threads)
		spoil(spoiled.Pinned)
		want(t, what+" again", call(), kept)
	}
}

func TestListsOfPlacesOfAClothAreNewEachTime(t *testing.T) {
	c := mixedCloth()
	lists := func() [][]int64 {
		pieces, _, _ := impl.PiecesOfCloth(c)
		return [][]int64{pieces, first(impl.InsideBall(c, vec(0.5, 0.3, -0.2), 1.7))}
	}
	kept := told(lists())
	want(t, "lists", kept, told([][]int64{{0, 0, 0, 0, 0, 0}, {0, 1, 2, 5}}))
	for _, list := range lists() {
		spoil(list)
		want(t, "lists again", told(lists()), kept)
	}
}
