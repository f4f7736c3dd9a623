package tests

import (
	"math"
	"testing"

	"loop.example/g01222/impl"
)

// wantBlocks asks for forces, block by block and of all places, whoever makes them.
func wantBlocks(t *testing.T, what string, b impl.Body, expected []impl.Vector) {
	t.Helper()
	for from := 0; from < len(expected); from += 8 {
		forces, ok := impl.BlockForces(b, int64(from))
		wantVectors(t, told(what, "block", from), forces, ok, expected[from:min(from+8, len(expected))])
	}
	for workers := int64(1); workers <= 8; workers++ {
		forces, ok := impl.ForcesShared(b, workers)
		wantVectors(t, told(what, "workers", workers), forces, ok, expected)
	}
}

func TestBlockForces(t *testing.T) {
	o := vec(0, 0, 0)
	stretched := bar(3, 1)
	wantBlocks(t, "a spring", stretched, []impl.Vector{vec(2, 0, 0), vec(-2, 0, 0)})
	// A spring between two blocks is in both of them.
	long := bodyOf(impl.Mesh{Places: repeat(o, 10)}, spring(9, 7, 1, 2))
	long.Mesh.Places[9] = vec(0, 4, 0)
	wantBlocks(t, "a spring between blocks", long, append(repeat(o, 7), vec(0, 6, 0), o, vec(0, -6, 0)))
	// A film of one triangle can be in three of them.
	film := bodyOf(impl.Mesh{Places: repeat(o, 24), Triangles: [][]int64{tri(7, 8, 23)}})
	film.Mesh.Places[8], film.Mesh.Places[23], film.Film = vec(1, 0, 0), vec(0, 1, 0), 2
	wantBlocks(t, "a film between blocks", film, slowForces(film))
	for place, force := range map[int64]impl.Vector{7: vec(1, 1, 0), 8: vec(-1, 0, 0), 23: vec(0, -1, 0)} {
		forces, ok := impl.BlockForces(film, place/8*8)
		if !ok || len(forces) != 8 || forces[place%8] != force {
			t.Errorf("a film pulls the place %d: %v, %v", place, forces, ok)
		}
	}
}

// TestBlocksToTheLastBit has values that were computed outside of the program.
func TestBlocksToTheLastBit(t *testing.T) {
	wantBlocks(t, "the mixed body", mixedBody(), vectorsOfBits(
		0x3ff3362c, 0xc041967c, 0xc0ac2302, 0xbf5093e7, 0x4008276b, 0x40026f0d, 0xbd6d0259, 0xbfe5beb4, 0xc02676f9,
		0x3f4482cc, 0x3dc11166, 0xc139e91a, 0xbf5da6fb, 0xbf74730b, 0xbfee08b4, 0xbf38218c, 0x4048815b, 0xbf945016))
}

// TestAnyNumberOfWorkersMakesTheSameForces compares bodies of all kinds with a second computation, and with ForcesOf.
func TestAnyNumberOfWorkersMakesTheSameForces(t *testing.T) {
	for i, b := range append(append(append(validBodies(), anyBodies()...), oddBodies()...), largeBodies()...) {
		wantBlocks(t, named("body", i), b, slowForces(b))
		forces, ok := impl.ForcesOf(b)
		wantBlocks(t, named("forces of body", i), b, forces)
		want(t, named("body", i), ok, true)
	}
}

func TestBlocksThatAreNotFull(t *testing.T) {
	whole := net()
	for count := range 65 {
		b := bodyOf(impl.Mesh{Places: whole.Mesh.Places[:count]})
		b.Fall, b.Weights = whole.Fall, whole.Weights[:count]
		for _, s := range whole.Springs {
			if s.A < int64(count) && s.B < int64(count) {
				b.Springs = append(b.Springs, s)
			}
		}
		wantBlocks(t, named("places", count), b, slowForces(b))
		checks, ok := impl.BlockChecks(b)
		wantOk(t, named("checks of places", count), checks, ok, slowChecks(b))
	}
}

func TestBlockForcesOfOtherPlacesFails(t *testing.T) {
	for _, count := range []int{0, 1, 2, 7, 8, 9, 15, 16, 17, 63, 64} {
		b := bodyOf(meshOf(count))
		for from := int64(-20); from < 90; from++ {
			forces, ok := impl.BlockForces(b, from)
			if from%8 == 0 && from >= 0 && from < int64(count) {
				wantVectors(t, told("block", from, "of", count), forces, ok, slowForces(b)[from:min(from+8, int64(count))])
			} else {
				wantNone(t, told("block", from, "of", count), forces, ok)
			}
		}
		for _, from := range []int64{128, 256, 1 << 32, 1<<32 + 8, math.MinInt64, math.MinInt64 + 8, math.MaxInt64, math.MaxInt64 - 7} {
			forces, ok := impl.BlockForces(b, from)
			wantNone(t, told("block", from, "of", count), forces, ok)
		}
	}
}

func TestForcesSharedFails(t *testing.T) {
	for i, b := range []impl.Body{{}, mixedBody(), net()} {
		for _, workers := range badWorkers() {
			forces, ok := impl.ForcesShared(b, workers)
			wantNone(t, told("workers", workers, "of body", i), forces, ok)
		}
	}
	wantBlocks(t, "a body without places", impl.Body{}, nil)
}

// wantWorst asks for a spring and how far it is from its length.
func wantWorst(t *testing.T, what string, b impl.Body, worst int64, off float32) {
	t.Helper()
	spring, x, ok := impl.WorstSpring(b)
	wantOk(t, what, spring, ok, worst)
	wantNumber(t, what, x, off)
}

func wantNoWorst(t *testing.T, what string, b impl.Body) {
	t.Helper()
	spring, x, ok := impl.WorstSpring(b)
	wantNone(t, what, spring, ok)
	wantNoSum(t, what, x, ok)
}

// apart has springs between +0, +0, +0 and places along X.
func apart(xs []float32, longs []float32) impl.Body {
	b := bodyOf(impl.Mesh{Places: make([]impl.Vector, 1)})
	for i, x := range xs {
		b.Mesh.Places = append(b.Mesh.Places, vec(x, 0, 0))
		b.Springs = append(b.Springs, spring(0, int64(i+1), longs[i], 1))
	}
	b.Weights = make([]float32, len(b.Mesh.Places))
	return b
}

func TestWorstSpring(t *testing.T) {
	n, i := num(nan), num(inf)
	wantWorst(t, "a spring", bar(3, 1), 0, 2)
	wantWorst(t, "a short spring", bar(3, 10), 0, 7)
	wantWorst(t, "a spring at its length", bar(3, 3), 0, 0)
	wantWorst(t, "a spring with a Long of -0", bar(0, num(minusZ)), 0, 0)
	wantWorst(t, "the first one", apart([]float32{9, 3, 1}, []float32{1, 1, 1}), 0, 8)
	wantWorst(t, "the last one", apart([]float32{1, 3, -9}, []float32{1, 1, 1}), 2, 8)
	wantWorst(t, "a short one", apart([]float32{2, 3, 4}, []float32{1, 9, 1}), 1, 6)
	wantWorst(t, "equal ones", apart([]float32{2, 5, 1, 5}, []float32{2, 2, 4, 8}), 1, 3)
	wantWorst(t, "equal ones, the short one first", apart([]float32{2, 1, 5}, []float32{2, 4, 2}), 1, 3)
	wantWorst(t, "all at their lengths", apart([]float32{2, 1, 5}, []float32{2, 1, 5}), 0, 0)
	wantWorst(t, "not-a-numbers first", apart([]float32{n, n, 2, 3, n}, []float32{1, 1, 1, 1, 1}), 3, 2)
	wantWorst(t, "a zero among not-a-numbers", apart([]float32{n, 1, i}, []float32{1, 1, i}), 1, 0)
	wantWorst(t, "an infinity", apart([]float32{5, i, -i}, []float32{1, 1, 1}), 1, i)
	wantWorst(t, "an infinite Long", apart([]float32{5, 2, i}, []float32{1, i, 1}), 1, i)
	wantWorst(t, "too great a length", apart([]float32{5, 1e20}, []float32{1, 1e20}), 1, i)
	wantWorst(t, "the mixed body", mixedBody(), 3, num(0x401c895d))
	wantNoWorst(t, "no springs", bodyOf(meshOf(3)))
	wantNoWorst(t, "no places", impl.Body{})
	wantNoWorst(t, "not-a-numbers", apart([]float32{n, i, n}, []float32{1, i, 1}))
}

func TestWorstSpringIsThatOfTheText(t *testing.T) {
	for i, b := range append(append(append(validBodies(), anyBodies()...), oddBodies()...), largeBodies()...) {
		worst, off, found := slowWorst(b)
		if found {
			wantWorst(t, named("body", i), b, worst, off)
		} else {
			wantNoWorst(t, named("body", i), b)
		}
	}
}

func TestBlockChecks(t *testing.T) {
	// Computed outside of the program.
	cases := map[int][]int64{
		0: nil, 1: {9465}, 7: {14900}, 8: {36025}, 9: {36025, 18023}, 64: {36025, 60298, 24668, 56027, 48385, 46828, 15825, 37301},
	}
	for count, expected := range cases {
		checks, ok := impl.BlockChecks(bodyOf(meshOf(count)))
		wantOk(t, named("places", count), checks, ok, expected)
	}
	checks, ok := impl.BlockChecks(mixedBody())
	wantOk(t, "the mixed body", checks, ok, []int64{39817})
	// Springs, triangles and numbers of the body do not matter.
	checks, ok = impl.BlockChecks(impl.Body{Mesh: impl.Mesh{Places: mixedBody().Mesh.Places}, Weights: make([]float32, 6)})
	wantOk(t, "the places of the mixed body", checks, ok, []int64{39817})
	for i, b := range append(append(validBodies(), oddBodies()...), largeBodies()...) {
		checks, ok := impl.BlockChecks(b)
		wantOk(t, named("body", i), checks, ok, slowChecks(b))
	}
}

// TestBlockChecksTellBitsApart shows that one bit more or less, in any place, changes the check number of its block alone.
func TestBlockChecksTellBitsApart(t *testing.T) {
	b := net()
	before, _ := impl.BlockChecks(b)
	for place, at := range b.Mesh.Places {
		after, _ := impl.BlockChecks(changed(b, func(b *impl.Body) { b.Mesh.Places[place].Z = math.Nextafter32(at.Z, 9) }))
		for block := range before {
			if (before[block] == after[block]) == (block == place/8) {
				t.Errorf("place %d changes the check number of block %d from %d to %d", place, block, before[block], after[block])
			}
		}
	}
}

func TestBlocksOfInvalidBodiesFail(t *testing.T) {
	for i, b := range invalidBodies() {
		what := named("the invalid body", i)
		forces, ok := impl.BlockForces(b, 0)
		wantNone(t, "block of "+what, forces, ok)
		for workers := int64(1); workers <= 8; workers++ {
			forces, ok = impl.ForcesShared(b, workers)
			wantNone(t, "forces of "+what, forces, ok)
		}
		wantNoWorst(t, "spring of "+what, b)
		checks, ok := impl.BlockChecks(b)
		wantNone(t, "checks of "+what, checks, ok)
	}
}
