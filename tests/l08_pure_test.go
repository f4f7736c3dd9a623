package tests

import (
	"math"
	"testing"

	"loop.example/g01222/impl"
)

// tellTwo tells what all functions of chapter 8 make of two numbers.
func tellTwo(x, y float32) string {
	return told(impl.CoshNumber(x), impl.SinhNumber(x), impl.IsHolding(x, y)) + told(impl.WidthAt(x, y)) + told(impl.NeckOf(x, y)) +
		told(impl.FilmArea(x, y)) + told(impl.DiscsArea(x)) + told(impl.WidestGap(x)) + told(impl.BubbleRadius(x)) +
		told(impl.BubblePressure(x, y)) + told(impl.WallRadius(x, y))
}

func TestFunctionsOfFilmsReturnEqualResults(t *testing.T) {
	list := append(oddNumbers(), 0.3, 0.35, 1e20, -7)
	for _, x := range list {
		for _, y := range list {
			twice(t, told("numbers", x, y), func() string { return tellTwo(x, y) })
		}
	}
	counts := []int64{math.MinInt64, -1, 0, 1, 2, 3, 7, 16, 17, 20, 21, 63, 64, 1 << 32, math.MaxInt64}
	for i, sides := range counts {
		for j, rows := range counts {
			r := rings{2, list[(7*i+j)%len(list)]}
			twice(t, told("film", sides, rows, r), func() string {
				return told(impl.FilmMesh(sides, rows, r.radius, r.gap)) + told(impl.FilmMesh(sides, rows, 2, 1.5))
			})
		}
	}
}

func TestFunctionsOfMeetingPathsReturnEqualResults(t *testing.T) {
	counts := []int64{math.MinInt64, -1, 0, 1, 2, 50, 100, 101, math.MaxInt64}
	for i, list := range oddCorners() {
		a, b, c := list[0], list[1], list[2]
		rounds := counts[i%len(counts)]
		twice(t, told("corners", list, rounds), func() string {
			return told(impl.MeetRest(a, b, c)) + told(impl.MeetPoint(a, b, c, rounds)) + told(impl.PathLong(a, b, c, a))
		})
	}
}

// shrinkCalls call ShrinkRing with some shares.
func shrinkCalls() []meshCall {
	var calls []meshCall
	for _, share := range []float32{0, 1, 0.5, -2, num(inf), num(nan)} {
		calls = append(calls, meshCall{told("ShrinkRing", share), func(m impl.Mesh) string { return told(impl.ShrinkRing(m, share)) }, noMesh})
	}
	return calls
}

func TestShrinkRingLeavesItsArgument(t *testing.T) {
	for i, m := range append(oddMeshes(), invalidMeshes()...) {
		wantUntouched(t, i, m, shrinkCalls())
	}
}

func TestShrinkRingFailsForInvalidMeshes(t *testing.T) { wantFailures(t, shrinkCalls()) }

func TestFilmsShareNoMemory(t *testing.T) {
	for i, m := range oddMeshes() {
		argument := spare(m)
		before := whole(argument)
		spoilMesh(first(impl.ShrinkRing(argument, 1)))
		spoilMesh(first(impl.ShrinkRing(argument, 0.5)))
		want(t, named("mesh", i), whole(argument), before)
	}
	film, _ := impl.FilmMesh(5, 3, 2, 1)
	wantMeshApart(t, "FilmMesh", func() impl.Mesh { return first(impl.FilmMesh(5, 3, 2, 1)) })
	wantMeshApart(t, "ShrinkRing", func() impl.Mesh { return first(impl.ShrinkRing(film, 0.25)) })
}
