package tests

import (
	"math"
	"runtime"
	"slices"
	"sync"
	"testing"
	"time"

	"loop.example/g01222/impl"
)

// wantSwept asks for a body after rounds of sweeps, whoever makes them.
func wantSwept(t *testing.T, what string, h heldBody, rounds int64, expected impl.Body) {
	t.Helper()
	next, ok := impl.SweepColours(h.b, h.held, rounds)
	wantBody(t, what, next, ok, expected)
	for workers := int64(1); workers <= 8; workers++ {
		next, ok := impl.SweepShared(h.b, h.held, rounds, workers)
		wantBody(t, told(what, "workers", workers), next, ok, expected)
	}
}

func TestSweepColour(t *testing.T) {
	// The springs 0 and 2 are along X, and the spring 1 is between them.
	row := chain(4, 1)
	row.Mesh.Places = []impl.Vector{vec(0, 0, 0), vec(3, 0, 0), vec(7, 0, 0), vec(12, 0, 0)}
	even := movedTo(row, vec(1, 0, 0), vec(2, 0, 0), vec(9, 0, 0), vec(10, 0, 0))
	odd := movedTo(row, vec(0, 0, 0), vec(4.5, 0, 0), vec(5.5, 0, 0), vec(12, 0, 0))
	last := movedTo(row, vec(0, 0, 0), vec(3, 0, 0), vec(9, 0, 0), vec(10, 0, 0))
	cases := []struct {
		colours  []int64
		colour   int64
		expected impl.Body
	}{
		{[]int64{0, 1, 0}, 0, even}, {[]int64{0, 1, 0}, 1, odd}, {[]int64{0, 1, 0}, 2, row}, {[]int64{0, 1, 0}, 200, row},
		{[]int64{200, 0, 200}, 200, even}, {[]int64{200, 0, 200}, 0, odd}, {[]int64{200, 0, 200}, 199, row},
		{[]int64{0, 1, 2}, 2, last}, {[]int64{5, 9, 7}, 7, last}, {[]int64{5, 9, 7}, 9, odd}, {[]int64{5, 9, 7}, 0, row},
	}
	for _, c := range cases {
		next, ok := impl.SweepColour(row, nil, c.colours, c.colour)
		wantBody(t, told("colour", c.colour, "of", c.colours), next, ok, c.expected)
	}
	next, ok := impl.SweepColour(row, []int64{0, 2, 3}, []int64{0, 1, 0}, 0)
	wantBody(t, "held places", next, ok, movedTo(row, vec(0, 0, 0), vec(1, 0, 0), vec(7, 0, 0), vec(12, 0, 0)))
	for i, b := range []impl.Body{{}, bodyOf(meshOf(5))} {
		next, ok := impl.SweepColour(b, nil, nil, 0)
		wantBody(t, named("without springs", i), next, ok, b)
	}
}

func TestSweepColourFails(t *testing.T) {
	b, good := mixedBody(), []int64{0, 1, 1, 0, 2}
	for _, colour := range badColours() {
		next, ok := impl.SweepColour(b, nil, good, colour)
		wantNone(t, told("colour", colour), next, ok)
		next, ok = impl.SweepColour(b, nil, []int64{0, 1, 1, 0, colour}, 0)
		wantNone(t, told("another spring of colour", colour), next, ok)
		next, ok = impl.SweepColour(b, nil, []int64{0, 1, 1, 0, colour}, colour)
		wantNone(t, told("just one spring of colour", colour), next, ok)
	}
	for _, colours := range [][]int64{nil, {0}, {0, 1, 1, 0}, {0, 1, 1, 0, 2, 3}, {0, 1, 1, 0, 0}, {0, 1, 2, 2, 3}, {4, 4, 1, 0, 2}} {
		for colour := range int64(5) {
			next, ok := impl.SweepColour(b, nil, colours, colour)
			wantNone(t, told("colour", colour, "of", colours), next, ok)
		}
	}
}

func TestSweepColourIsThatOfTheText(t *testing.T) {
	d := dice(25)
	for i, h := range sweptBodies() {
		// Other colours keep springs apart as well, if they are different for different ones.
		colours := slowColours(h.b)
		for j, colour := range colours {
			colours[j] = 200 - colour
		}
		for range 3 {
			colour := 200 - int64(d.below(6))
			next, ok := impl.SweepColour(h.b, h.held, colours, colour)
			wantBody(t, told("colour", colour, "of body", i), next, ok, slowClass(h, colours, colour))
		}
	}
}

// TestSweepColourInAnyOrder projects the springs of a colour one by one, from the last one to the first one.
func TestSweepColourInAnyOrder(t *testing.T) {
	for i, b := range largeBodies() {
		h := heldBody{b, []int64{1}}
		colours := slowColours(b)
		for colour := range min(slowCount(colours), 20) {
			expected, _ := impl.SweepColour(b, h.held, colours, colour)
			last := b
			for j := len(colours) - 1; j >= 0; j-- {
				if colours[j] == colour {
					last, _ = impl.ProjectSpring(last, h.held, int64(j))
				}
			}
			wantBody(t, told("colour", colour, "of body", i), last, true, expected)
		}
	}
}

func TestSweepColours(t *testing.T) {
	row := chain(4, 1)
	row.Mesh.Places = []impl.Vector{vec(0, 0, 0), vec(3, 0, 0), vec(7, 0, 0), vec(12, 0, 0)}
	wantSwept(t, "no rounds", heldBody{row, nil}, 0, row)
	wantSwept(t, "one round", heldBody{row, nil}, 1, movedTo(row, vec(1, 0, 0), vec(5, 0, 0), vec(6, 0, 0), vec(10, 0, 0)))
	wantSwept(t, "two rounds", heldBody{row, nil}, 2, movedTo(row, vec(2.5, 0, 0), vec(5, 0, 0), vec(6, 0, 0), vec(8.5, 0, 0)))
	held := movedTo(row, vec(0, 0, 0), vec(6, 0, 0), vec(7, 0, 0), vec(8, 0, 0))
	for _, rounds := range []int64{1, 2, 40} {
		wantSwept(t, told("held", rounds), heldBody{row, []int64{0, 2}}, rounds, held)
		wantSwept(t, told("all held", rounds), heldBody{row, []int64{0, 1, 2, 3}}, rounds, row)
		wantSwept(t, told("a body without places", rounds), heldBody{}, rounds, impl.Body{})
		wantSwept(t, told("a body without springs", rounds), heldBody{bodyOf(meshOf(9)), []int64{8}}, rounds, bodyOf(meshOf(9)))
	}
}

// TestSweepsToTheLastBit has values that were computed outside of the program.
func TestSweepsToTheLastBit(t *testing.T) {
	b := mixedBody()
	cases := []struct {
		held   []int64
		rounds int64
		bits   []uint32
	}{
		{nil, 1, []uint32{0x3f32eadd, 0xbe171c7e, 0x3e1df01a, 0x3f8ccf1d, 0xbe999e39, 0x3eee9227, 0x3f3345bb, 0x401b2b3a, 0xbf4b0fb0,
			0xbf8d0d98, 0x3f4d0d98, 0x3f667ff7, 0x3fda206c, 0x3f181c90, 0x3f6cd883, 0x3f32d855, 0xbf2c0da0, 0x3eb1e438}},
		{nil, 3, []uint32{0x3f1cfc93, 0xbed7739a, 0x3e58ee96, 0x3f9ff51a, 0xbe9acd7e, 0x3f298066, 0x3f34414c, 0x4028f473, 0xbf5f03b4,
			0xbf809ea2, 0x3f4109f4, 0x3f636ce5, 0x3fd02272, 0x3eff80aa, 0x3f612db2, 0x3f1c9d1d, 0xbef090ad, 0x3e6ab447}},
		{nil, 40, []uint32{0x3f16d06c, 0xbee5c7fe, 0x3e544728, 0x3fa6f4c7, 0xbe8b1553, 0x3f395dff, 0x3f347ae8, 0x402a8c87, 0xbf613f59,
			0xbf79c6f1, 0x3f3daa24, 0x3f62d354, 0x3fcb4735, 0x3eed5317, 0x3f5aea73, 0x3f16d06c, 0xbee5c7fe, 0x3e544728}},
		{[]int64{1, 4}, 1, []uint32{0x3f861e10, 0x3e51c705, 0x3f0ef80d, 0x3fa66666, 0xbecccccd, 0x3f000000, 0x3f192bd6, 0x401950e7, 0xbf704cce,
			0xbf696089, 0x3f34b044, 0x3f5e5ce3, 0x400ccccd, 0x3fb33333, 0x3fd9999a, 0x3f9321bf, 0xbe94d6ea, 0x3f65ab41}},
		{[]int64{1, 4}, 3, []uint32{0x3fa51769, 0x3eb2ccf3, 0x3f7fc3d8, 0x3fa66666, 0xbecccccd, 0x3f000000, 0x3f06e26b, 0x40285593, 0xbf92b7a3,
			0xbf69608d, 0x3f34b046, 0x3f5e5ce4, 0x400ccccd, 0x3fb33333, 0x3fd9999a, 0x3fa76d21, 0x3e96e04c, 0x3f8672c5}},
		{[]int64{1, 4}, 40, []uint32{0x3fb2510a, 0x3ea7c040, 0x3f8337d8, 0x3fa66666, 0xbecccccd, 0x3f000000, 0x3f05be5f, 0x40292d2a, 0xbf9454b1,
			0xbf69608d, 0x3f34b046, 0x3f5e5ce4, 0x400ccccd, 0x3fb33333, 0x3fd9999a, 0x3fb2506c, 0x3ea7c6cf, 0x3f83364c}},
	}
	for _, c := range cases {
		wantSwept(t, told("held", c.held, "rounds", c.rounds), heldBody{b, c.held}, c.rounds, movedTo(b, vectorsOfBits(c.bits...)...))
	}
}

// TestAnyNumberOfWorkersMakesTheSameSweeps compares bodies of all kinds with a second computation.
func TestAnyNumberOfWorkersMakesTheSameSweeps(t *testing.T) {
	for i, h := range sweptBodies() {
		for rounds := range int64(3) {
			wantSwept(t, told("rounds", rounds, "of body", i), h, rounds, slowSweep(h, rounds))
		}
	}
}

func TestManyRoundsOfLargeBodies(t *testing.T) {
	for i, b := range largeBodies() {
		h := heldBody{b, []int64{0}}
		expected := slowSweep(h, 7)
		wantSwept(t, named("seven rounds of body", i), h, 7, expected)
		// The last round there can be begins where the others end.
		before, _ := impl.SweepColours(b, h.held, 39)
		wantSwept(t, named("forty rounds of body", i), h, 40, slowSweep(heldBody{before, h.held}, 1))
	}
}

// TestSweepsAreColoursOneAfterAnother compares with SweepColour.
func TestSweepsAreColoursOneAfterAnother(t *testing.T) {
	for i, h := range sweptBodies() {
		next, colours := h.b, slowColours(h.b)
		for colour := range slowCount(colours) {
			next, _ = impl.SweepColour(next, h.held, colours, colour)
		}
		wantSwept(t, named("body", i), h, 1, next)
	}
}

// TestSweepsOfHeldPlaces asks that they keep all of their bits, and that nothing else but places is changed.
func TestSweepsOfHeldPlaces(t *testing.T) {
	for i, h := range sweptBodies() {
		for _, workers := range []int64{1, 3, 8} {
			next, ok := impl.SweepShared(h.b, h.held, 5, workers)
			if !ok {
				t.Fatalf("body %d fails", i)
			}
			for _, place := range h.held {
				wantVector(t, told("held place", place, "of body", i), next.Mesh.Places[place], h.b.Mesh.Places[place])
			}
			wantHeld(t, named("body", i), h, next)
		}
	}
}

func TestNumbersOfRoundsAndWorkersHaveLimits(t *testing.T) {
	for i, h := range []heldBody{{mixedBody(), []int64{1}}, {bar(3, 1), []int64{0, 1}}, {impl.Body{}, nil}, {net(), nil}} {
		for _, rounds := range []int64{0, 1, 39, 40} {
			expected, ok := impl.SweepColours(h.b, h.held, rounds)
			wantSwept(t, told("rounds", rounds, "of body", i), h, rounds, expected)
			want(t, told("rounds", rounds, "of body", i), ok, true)
		}
		for _, rounds := range badRounds() {
			next, ok := impl.SweepColours(h.b, h.held, rounds)
			wantNone(t, told("rounds", rounds, "of body", i), next, ok)
			for workers := range int64(10) {
				next, ok = impl.SweepShared(h.b, h.held, rounds, workers)
				wantNone(t, told("rounds", rounds, "of workers", workers), next, ok)
			}
		}
		for _, workers := range badWorkers() {
			for _, rounds := range []int64{0, 1, 40, 41} {
				next, ok := impl.SweepShared(h.b, h.held, rounds, workers)
				wantNone(t, told("workers", workers, "of body", i), next, ok)
			}
		}
	}
}

func TestSweepsOfInvalidBodiesFail(t *testing.T) {
	for i, h := range invalidHeldBodies() {
		what := named("the invalid body", i)
		next, ok := impl.ProjectSpring(h.b, h.held, 0)
		wantNone(t, "spring of "+what, next, ok)
		for _, colours := range [][]int64{nil, make([]int64, len(h.b.Springs)), {0, 1, 1, 0, 2}} {
			next, ok = impl.SweepColour(h.b, h.held, colours, 0)
			wantNone(t, "colour of "+what, next, ok)
		}
		for _, rounds := range []int64{0, 1, 40} {
			next, ok = impl.SweepColours(h.b, h.held, rounds)
			wantNone(t, "colours of "+what, next, ok)
			for workers := int64(1); workers <= 8; workers++ {
				next, ok = impl.SweepShared(h.b, h.held, rounds, workers)
				wantNone(t, "workers of "+what, next, ok)
			}
		}
	}
}

func TestSharesOf(t *testing.T) {
	cases := []struct {
		count, workers int64
		expected       [][]int64
	}{
		{5, 2, [][]int64{{0, 3}, {3, 2}}}, {6, 2, [][]int64{{0, 3}, {3, 3}}}, {5, 1, [][]int64{{0, 5}}},
		{0, 1, [][]int64{{0, 0}}}, {0, 3, [][]int64{{0, 0}, {0, 0}, {0, 0}}},
		{1, 3, [][]int64{{0, 1}, {1, 0}, {1, 0}}}, {2, 4, [][]int64{{0, 1}, {1, 1}, {2, 0}, {2, 0}}},
		{11, 4, [][]int64{{0, 3}, {3, 3}, {6, 3}, {9, 2}}}, {8, 8, [][]int64{{0, 1}, {1, 1}, {2, 1}, {3, 1}, {4, 1}, {5, 1}, {6, 1}, {7, 1}}},
		{256, 1, [][]int64{{0, 256}}}, {256, 3, [][]int64{{0, 86}, {86, 85}, {171, 85}}},
		{255, 8, [][]int64{{0, 32}, {32, 32}, {64, 32}, {96, 32}, {128, 32}, {160, 32}, {192, 32}, {224, 31}}},
	}
	for _, c := range cases {
		shares, ok := impl.SharesOf(c.count, c.workers)
		wantOk(t, told("things", c.count, "workers", c.workers), shares, ok, c.expected)
	}
	for count := range int64(257) {
		for workers := int64(1); workers <= 8; workers++ {
			shares, ok := impl.SharesOf(count, workers)
			wantOk(t, told("things", count, "workers", workers), shares, ok, slowShares(count, workers))
		}
	}
}

func TestSharesOfOtherNumbersFail(t *testing.T) {
	for _, workers := range badWorkers() {
		for _, count := range []int64{-1, 0, 5, 256, 257} {
			shares, ok := impl.SharesOf(count, workers)
			wantNone(t, told("things", count, "workers", workers), shares, ok)
		}
	}
	for _, count := range []int64{-1, -256, 257, 258, 5000, 1 << 32, 1<<32 + 1, math.MinInt64, math.MaxInt64} {
		for workers := range int64(10) {
			shares, ok := impl.SharesOf(count, workers)
			wantNone(t, told("things", count, "workers", workers), shares, ok)
		}
	}
}

// TestSweepsAtTheSameTime calls for one body from many goroutines, each with another number of workers.
func TestSweepsAtTheSameTime(t *testing.T) {
	b := net()
	held := []int64{0, 7, 56, 63}
	expected, _ := impl.SweepColours(b, held, 10)
	forces := slowForces(b)
	var group sync.WaitGroup
	for i := range int64(64) {
		group.Go(func() {
			next, ok := impl.SweepShared(b, held, 10, 1+i%8)
			wantBody(t, told("call", i), next, ok, expected)
			list, ok := impl.ForcesShared(b, 1+i%8)
			wantOk(t, told("forces of call", i), list, ok, forces)
		})
	}
	group.Wait()
}

// wantNoneBehind asks that there are no more goroutines than before. Those that have done their last step may need a moment to vanish.
func wantNoneBehind(t *testing.T, what string, before int) {
	t.Helper()
	for range 1000 {
		if runtime.NumGoroutine() <= before {
			return
		}
		time.Sleep(time.Millisecond)
	}
	t.Fatalf("%s leaves %d goroutines behind", what, runtime.NumGoroutine()-before)
}

func TestNoWorkerIsLeftBehind(t *testing.T) {
	before := runtime.NumGoroutine()
	for i, b := range slices.Concat(largeBodies(), invalidBodies()[:5], []impl.Body{{}}) {
		for workers := range int64(10) {
			impl.SweepShared(b, nil, 2, workers)
			impl.ForcesShared(b, workers)
		}
		wantNoneBehind(t, named("body", i), before)
	}
}
