package tests

import (
	"math"
	"testing"

	"loop.example/g01222/impl"
)

func wantTurn(t *testing.T, what string, h heldBody, step float32, rounds int64, expected impl.Body, count int64) {
	t.Helper()
	b, steps, ok := impl.TurnDown(h.b, h.held, step, rounds)
	wantOk(t, what+", body", b, ok, expected)
	want(t, what+", steps", steps, count)
}

// turnedCases were computed outside of the program, for the mixed body whose places 1 and 4 are held.
var turnedCases = []struct {
	step   float32
	rounds int64
	bits   []uint32 // of the places 0, 2, 3 and 5
}{
	{0.05, 1, []uint32{0x3e47af45, 0x3d47b80c, 0x3cfe3ff0, 0x3f327598, 0x3fe7b677, 0xbf3ae499, 0xbf87e322, 0x3f4e01b6, 0x3ea357d6, 0x3f1064b9, 0xbf858caa, 0xbf5ba19c}},
	{0.05, 2, []uint32{0x3eb4b4d0, 0xbe478ee5, 0xbee473fb, 0x3f30309d, 0x3fd43466, 0xbf7c0d46, 0xbf7bbad1, 0x3f50153d, 0xbf474a7f, 0x3f024778, 0xbf4b1bb0, 0xbf7d7d52}},
	{0.05, 3, []uint32{0x3f08484b, 0xbee4500c, 0xbf85578a, 0x3f2bb075, 0x3fbcd6d9, 0xbfaea2d1, 0xbf5f2d21, 0x3f53a7ae, 0xc0136f6f, 0x3eeaa168, 0xbf0a8ca6, 0xbf9c3c9d}},
	{0.05, 6, []uint32{0x3f8c942c, 0xbf2b3a66, 0xc06824d5, 0x3f28869e, 0x3f01099c, 0xc089829b, 0xbebd1faa, 0x3f7b0782, 0xc140b1d9, 0x3ef75492, 0xbe2fa53e, 0xc048d808}},
	// The first step is halved, and in the fifth one, just the forces help.
	{3, 6, []uint32{0xcc3b6b90, 0x4cb5d095, 0xcd2cd400, 0x4c9fb52f, 0x4e0386e2, 0xce7f3f4e, 0x4d94fed9, 0xcc945f10, 0xcf72580f, 0x4cce3894, 0xce0d22bb, 0xce2d70db}},
	{0.5, 40, []uint32{0x4dbd7334, 0x4d27ff03, 0xd0618454, 0x4e1d9146, 0xcd519808, 0xd0b880fd, 0x4f90813f, 0xcf42e53b, 0xd1ee7368, 0x4db684da, 0xcc8c44ca, 0xd04cbee2}},
}

func TestTurnDownToTheLastBit(t *testing.T) {
	b := mixedBody()
	for _, c := range turnedCases {
		expected := changed(b, func(b *impl.Body) {
			for i, place := range []int{0, 2, 3, 5} {
				b.Mesh.Places[place] = vectorsOfBits(c.bits...)[i]
			}
		})
		wantTurn(t, told(c.rounds, "rounds of", c.step), heldBody{b, []int64{1, 4}}, c.step, c.rounds, expected, c.rounds)
	}
}

// TestTurnDownAddsTheDirectionBefore takes a spring whose error is y: with the step 1/4, it becomes 3/4 y, the quotient of squares is 9/16,
// and the next direction is -3/4 y - 9/16 y.
func TestTurnDownAddsTheDirectionBefore(t *testing.T) {
	h := heldBody{bar(116, 100), []int64{0}}
	for rounds, long := range []float32{116, 112, 106.75} {
		wantTurn(t, told("rounds", rounds), h, 0.25, int64(rounds), bar(long, 100), int64(rounds))
	}
}

// TestTurnDownTakesTheForcesOnce takes a triangle whose film pulls a place to the opposite side with 1, wherever it is, so that the direction
// becomes longer by 1 in each round, until it goes over the side. Then just the forces lead back.
func TestTurnDownTakesTheForcesOnce(t *testing.T) {
	at := func(y float32) heldBody {
		b := bodyOf(impl.Mesh{Places: []impl.Vector{{}, vec(1, 0, 0), vec(0, y, 0)}, Triangles: [][]int64{tri(0, 1, 2)}})
		b.Film = 2
		return heldBody{b, []int64{0, 1}}
	}
	for _, ys := range [][]float32{{10.5, 9.5, 7.5, 4.5, 0.5, -0.125, 0}, {9.5, 8.5, 6.5, 3.5, -0.5, 0}} {
		for rounds := range int64(12) {
			steps := min(rounds, int64(len(ys)-1))
			wantTurn(t, told("rounds", rounds), at(ys[0]), 1, rounds, at(ys[steps]).b, steps)
		}
	}
}

func TestTurnDownEndsWhereNothingHelps(t *testing.T) {
	for _, rounds := range []int64{1, 2, 40} {
		wantTurn(t, told("to rest in", rounds), heldBody{bar(101, 100), []int64{0}}, 1, rounds, bar(100, 100), 1)
		wantTurn(t, told("at rest for", rounds), heldBody{bar(100, 100), []int64{0}}, 1, rounds, bar(100, 100), 0)
	}
	wantTurn(t, "no rounds", heldBody{bar(101, 100), []int64{0}}, 1, 0, bar(101, 100), 0)
	wantTurn(t, "no rounds from a not-a-number", heldBody{weight(num(nan), 1), nil}, 1, 0, weight(num(nan), 1), 0)
	wantTurn(t, "a body without places", heldBody{}, 1, 40, impl.Body{}, 0)
	// In each round, the direction becomes longer by one force.
	for _, rounds := range []int64{1, 2, 3, 39, 40} {
		height := -float32(rounds*(rounds+1)) / 2
		wantTurn(t, told("falling for", rounds), heldBody{weight(0, 1), nil}, 1, rounds, weight(height, 1), rounds)
	}
}

// TestTurnDownOfForcesWithoutSquares takes forces whose squares are +0 before the first step, but not behind it.
// If the quotient of both were an infinity, the next step would go to the ends of space, where the energy is less than any number.
func TestTurnDownOfForcesWithoutSquares(t *testing.T) {
	const half = 5e-11
	b := bodyOf(impl.Mesh{Places: []impl.Vector{vec(-half, -half, -half), vec(half, half, half)}}, spring(0, 1, 0, -1e-13))
	b.Weights, b.Fall = []float32{-1, 1}, vec(1e-30, 1e-30, 1e-30)
	h := heldBody{b, nil}
	const step = 1e14
	next, _, _ := slowStep(b, slowFree(h), step)
	before, behind := slowFree(h), slowFree(heldBody{next, nil})
	if slowInner(before, before) != 0 || !(slowInner(behind, behind) > 0) {
		t.Fatalf("squares are %v and %v", slowInner(before, before), slowInner(behind, behind))
	}
	again, _, _ := slowStep(next, behind, step)
	wantTurn(t, "one step", h, step, 1, next, 1)
	wantTurn(t, "two steps", h, step, 2, again, 2)
	if far := impl.LongOf(again.Mesh.Places[0]); !(far < 1) {
		t.Errorf("a place is %v away", far)
	}
}

// TestTurnDownOfInfiniteSquares takes forces whose squares are too great, so that the first turned direction has no numbers.
func TestTurnDownOfInfiniteSquares(t *testing.T) {
	b := bar(101, 100)
	b.Springs[0].Stiff = 0x1p66
	h := heldBody{b, []int64{0}}
	expected, count, again := slowTurn(h, 0x1.8p-66, 5)
	if count != 5 || again == 0 {
		t.Errorf("%d steps, and %d of them along the forces again", count, again)
	}
	wantTurn(t, "great forces", h, 0x1.8p-66, 5, expected, count)
	wantTurn(t, "one step", h, 0x1.8p-66, 1, changed(b, func(b *impl.Body) { b.Mesh.Places[1].X = 99.5 }), 1)
}

func TestTurnsAreThoseOfTheText(t *testing.T) {
	var steps, again int64
	for i, h := range append(validHeldBodies(), anyHeldBodies()...) {
		for _, step := range []float32{0.02, 0.4, 10} {
			rounds := int64(2 + i%9)
			expected, count, twice := slowTurn(h, step, rounds)
			wantTurn(t, told("body", i, "step", step), h, step, rounds, expected, count)
			steps += count
			again += twice
		}
	}
	if again < 10 || steps < 10*again {
		t.Errorf("of %d steps, just %d go along the forces again", steps, again)
	}
}

func TestInnerAll(t *testing.T) {
	a := []impl.Vector{vec(1, 2, 3), vec(-4, 5, 0.5)}
	b := []impl.Vector{vec(4, -5, 6), vec(0.25, 2, 8)}
	sum, ok := impl.InnerAll(a, b)
	wantSum(t, "two vectors", sum, ok, 25)
	sum, ok = impl.InnerAll(nil, nil)
	wantSum(t, "no vectors", sum, ok, 0)
	z := num(minusZ)
	sum, ok = impl.InnerAll([]impl.Vector{vec(z, z, z)}, []impl.Vector{vec(1, 1, 1)})
	wantSum(t, "from +0 on", sum, ok, 0)
	// Each square is rounded before it is added.
	x := num(0x3f800001)
	sum, ok = impl.InnerAll([]impl.Vector{vec(1, 0, 0), vec(x, 0, 0)}, []impl.Vector{vec(-num(0x3f800002), 0, 0), vec(x, 0, 0)})
	wantSum(t, "rounded products", sum, ok, 0)
	// The numbers of a vector are added before those of the next one, and these from left to right.
	sum, ok = impl.InnerAll([]impl.Vector{vec(1, 0, 0), vec(0x1p25, 1, -0x1p25)}, repeat(vec(1, 1, 1), 2))
	wantSum(t, "vector by vector", sum, ok, 1)
	sum, ok = impl.InnerAll([]impl.Vector{vec(0x1p25, 0, 0), vec(1, 0, 0), vec(-0x1p25, 0, 0)}, repeat(vec(1, 1, 1), 3))
	wantSum(t, "from the left", sum, ok, 0)
	mixed := mixedBody()
	sum, ok = impl.InnerAll(mixed.Mesh.Places, first(impl.FreeForces(mixed, []int64{1, 4})))
	wantSum(t, "places and forces", sum, ok, num(0xc193467e))
	for _, x := range nums(inf, negInf, nan) {
		sum, ok = impl.InnerAll([]impl.Vector{vec(1, 1, 1), vec(1, x, 1)}, repeat(vec(1, 1, 1), 2))
		wantSum(t, told("any number", x), sum, ok, x)
	}
	sum, ok = impl.InnerAll(repeat(vec(math.MaxFloat32, 0, 0), 2), repeat(vec(1, 1, 1), 2))
	wantSum(t, "too great a sum", sum, ok, num(inf))
}

func TestInnerAllTakesListsOfTheSameLength(t *testing.T) {
	lengths := []int{0, 1, 2, 63, 64, 65, 255, 256, 257, 512, 5000}
	for _, m := range lengths {
		for _, n := range lengths {
			sum, ok := impl.InnerAll(repeat(vec(1, 0, 0), m), repeat(vec(1, 5, 0), n))
			what := told(m, "and", n, "vectors")
			if m == n && n <= 256 {
				wantSum(t, what, sum, ok, float32(n))
			} else {
				wantNoSum(t, what, sum, ok)
			}
		}
	}
	for i, list := range oddVectors() {
		other := append([]impl.Vector{}, list...)
		for j := range other {
			other[j] = list[len(list)-1-j]
		}
		sum, ok := impl.InnerAll(list, other)
		if len(list) <= 256 {
			wantSum(t, named("list", i), sum, ok, float32(slowInner(list, other)))
		}
	}
}
