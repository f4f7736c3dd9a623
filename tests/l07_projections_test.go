package tests

import (
	"math"
	"testing"

	"loop.example/g01222/impl"
)

// wantProjected asks for a body with a spring projected, alone or with all others of its colour.
func wantProjected(t *testing.T, what string, h heldBody, spring int64, expected impl.Body) {
	t.Helper()
	next, ok := impl.ProjectSpring(h.b, h.held, spring)
	wantBody(t, what, next, ok, expected)
	colours := make([]int64, len(h.b.Springs))
	for i := range colours {
		colours[i] = int64(i)
	}
	next, ok = impl.SweepColour(h.b, h.held, colours, spring)
	wantBody(t, what+", as a colour", next, ok, expected)
}

func TestProjectSpring(t *testing.T) {
	b := bar(3, 1)
	z := num(minusZ)
	wantProjected(t, "none held", heldBody{b, nil}, 0, movedTo(b, vec(1, 0, 0), vec(2, 0, 0)))
	wantProjected(t, "A held", heldBody{b, []int64{0}}, 0, movedTo(b, vec(0, 0, 0), vec(1, 0, 0)))
	wantProjected(t, "B held", heldBody{b, []int64{1}}, 0, movedTo(b, vec(2, 0, 0), vec(3, 0, 0)))
	wantProjected(t, "both held", heldBody{b, []int64{0, 1}}, 0, b)
	// A spring that is too short grows, and one with a Long of 0 vanishes.
	wantProjected(t, "a short spring", heldBody{bar(2, 6), nil}, 0, movedTo(bar(2, 6), vec(-2, 0, 0), vec(4, 0, 0)))
	wantProjected(t, "a short spring, A held", heldBody{bar(2, 6), []int64{0}}, 0, movedTo(bar(2, 6), vec(0, 0, 0), vec(6, 0, 0)))
	wantProjected(t, "a short spring, B held", heldBody{bar(2, 6), []int64{1}}, 0, movedTo(bar(2, 6), vec(-4, 0, 0), vec(2, 0, 0)))
	for _, long := range []float32{0, z} {
		wantProjected(t, told("no length", long), heldBody{bar(2, long), nil}, 0, movedTo(bar(2, long), vec(1, 0, 0), vec(1, 0, 0)))
		wantProjected(t, told("no length, A held", long), heldBody{bar(2, long), []int64{0}}, 0, movedTo(bar(2, long), vec(0, 0, 0), vec(0, 0, 0)))
		wantProjected(t, told("no length, B held", long), heldBody{bar(2, long), []int64{1}}, 0, movedTo(bar(2, long), vec(2, 0, 0), vec(2, 0, 0)))
	}
	// Other held places and springs do not matter, nor how stiff the spring is.
	row := chain(4, 1)
	row.Mesh.Places = []impl.Vector{vec(0, 0, 0), vec(0, 3, 4), vec(0, 9, 12), vec(7, 7, 7)}
	row.Springs[1].Long, row.Springs[1].Stiff = 5, num(nan)
	wantProjected(t, "a spring in a row", heldBody{row, []int64{0, 3}}, 1, movedTo(row, vec(0, 0, 0), vec(0, 4.5, 6), vec(0, 7.5, 10)))
	wantProjected(t, "a spring in a row, A held", heldBody{row, []int64{1, 3}}, 1, movedTo(row, vec(0, 0, 0), vec(0, 3, 4), vec(0, 6, 8)))
	wantProjected(t, "a spring in a row, B held", heldBody{row, []int64{0, 2}}, 1, movedTo(row, vec(0, 0, 0), vec(0, 6, 8)))
}

// TestProjectSpringToTheLastBit has values that were computed outside of the program.
func TestProjectSpringToTheLastBit(t *testing.T) {
	b := mixedBody()
	cases := []struct {
		held []int64
		bits []uint32 // of the places 3 and 1
	}{
		{nil, []uint32{0xbf80be89, 0x3f40be89, 0x3f6261a5, 0x3f9a5822, 0xbeb4b044, 0x3f0404c1}},
		{[]int64{3}, []uint32{0xbf8ccccd, 0x3f4ccccd, 0x3f666666, 0x3f8e49de, 0xbe9c93bc, 0x3f080983}},
		{[]int64{1}, []uint32{0xbf696089, 0x3f34b044, 0x3f5e5ce3, 0x3fa66666, 0xbecccccd, 0x3f000000}},
		{[]int64{1, 3}, []uint32{0xbf8ccccd, 0x3f4ccccd, 0x3f666666, 0x3fa66666, 0xbecccccd, 0x3f000000}},
	}
	for _, c := range cases {
		places := vectorsOfBits(c.bits...)
		wantProjected(t, told("spring 1, held", c.held), heldBody{b, c.held}, 1, changed(b, func(b *impl.Body) {
			b.Mesh.Places[3], b.Mesh.Places[1] = places[0], places[1]
		}))
	}
	places := vectorsOfBits(0x3eb33334, 0xbf000000, 0xbe800000, 0x3eb33333, 0xbf000001, 0xbe800000)
	wantProjected(t, "spring 2", heldBody{b, nil}, 2, changed(b, func(b *impl.Body) {
		b.Mesh.Places[5], b.Mesh.Places[0] = places[0], places[1]
	}))
}

// between makes a spring between two places.
func between(a, b impl.Vector, long float32) impl.Body {
	return bodyOf(impl.Mesh{Places: []impl.Vector{a, b}}, spring(0, 1, long, 1))
}

func TestProjectSpringWithEndsAtTheSamePlace(t *testing.T) {
	z, place := num(minusZ), vec(1, -2, 3)
	for _, long := range nums(0, 1, 0x3f800000, inf) {
		for _, held := range [][]int64{nil, {0}, {1}, {0, 1}} {
			b := between(place, place, long)
			wantProjected(t, told("ends at the same place", long, held), heldBody{b, held}, 0, b)
		}
	}
	// The way is +0, and so is what is added to A; what is added to B is -0.
	b := between(vec(z, z, z), vec(z, 0, z), 1)
	plus, mixed, minus := vec(0, 0, 0), vec(z, 0, z), vec(z, z, z)
	wantProjected(t, "zeros", heldBody{b, nil}, 0, movedTo(b, plus, mixed))
	wantProjected(t, "zeros, A held", heldBody{b, []int64{0}}, 0, movedTo(b, minus, mixed))
	wantProjected(t, "zeros, B held", heldBody{b, []int64{1}}, 0, movedTo(b, plus, mixed))
	wantProjected(t, "zeros, both held", heldBody{b, []int64{0, 1}}, 0, b)
	// The square of this way is less than the least number, so it has no length.
	tiny := between(vec(0, 0, 0), vec(num(1), 1e-30, 0), 1)
	for _, held := range [][]int64{nil, {0}, {1}, {0, 1}} {
		wantProjected(t, told("a tiny way", held), heldBody{tiny, held}, 0, tiny)
	}
}

// TestHeldEndsKeepAllBits takes numbers that would change if anything, even +0, were added to them.
func TestHeldEndsKeepAllBits(t *testing.T) {
	odd := oddNumbers()
	for i, x := range odd {
		a := vec(x, num(minusZ), odd[(i+5)%len(odd)])
		for _, b := range []impl.Vector{vec(1, 2, 3), a, vec(num(minusZ), odd[(i+9)%len(odd)], x)} {
			for _, long := range nums(0, minusZ, 0x3f800000, inf) {
				body := between(a, b, long)
				wantProjected(t, told("both held", a, b), heldBody{body, []int64{0, 1}}, 0, body)
				next, _ := impl.ProjectSpring(body, []int64{0}, 0)
				wantVector(t, told("held A", a, b), next.Mesh.Places[0], a)
				next, _ = impl.ProjectSpring(body, []int64{1}, 0)
				wantVector(t, told("held B", a, b), next.Mesh.Places[1], b)
				for _, workers := range []int64{1, 2, 8} {
					next, ok := impl.SweepShared(body, []int64{0, 1}, 3, workers)
					wantBody(t, told("both held by workers", a, b), next, ok, body)
				}
			}
		}
	}
}

func TestProjectSpringWithNumbersThatAreNotFinite(t *testing.T) {
	n, i, o := num(nan), num(inf), vec(0, 0, 0)
	// A length that is a not-a-number is not greater than 0, so it moves nothing, but for what is no number.
	b := between(vec(n, 1, 2), vec(5, 0, 0), 1)
	wantProjected(t, "a not-a-number", heldBody{b, nil}, 0, movedTo(b, vec(n, 1, 2), vec(n, 0, 0)))
	wantProjected(t, "a not-a-number, A held", heldBody{b, []int64{0}}, 0, movedTo(b, vec(n, 1, 2), vec(n, 0, 0)))
	wantProjected(t, "a not-a-number, B held", heldBody{b, []int64{1}}, 0, b)
	b = between(vec(i, 0, 0), vec(i, 0, 0), 1)
	wantProjected(t, "the same infinity", heldBody{b, nil}, 0, movedTo(b, vec(n, 0, 0), vec(n, 0, 0)))
	// An infinite length less a finite one, divided by it, is a not-a-number.
	b = between(o, vec(i, 1, 0), 1)
	wantProjected(t, "an infinity", heldBody{b, nil}, 0, movedTo(b, vec(n, n, n), vec(n, n, n)))
	wantProjected(t, "an infinity, A held", heldBody{b, []int64{0}}, 0, movedTo(b, o, vec(n, n, n)))
	wantProjected(t, "an infinity, B held", heldBody{b, []int64{1}}, 0, movedTo(b, vec(n, n, n), vec(i, 1, 0)))
	b = between(o, vec(1, 0, 0), i)
	wantProjected(t, "an infinite Long", heldBody{b, nil}, 0, movedTo(b, vec(-i, n, n), vec(i, n, n)))
	// The length is too great, but the places are finite.
	b = between(o, vec(1e20, 0, 0), 1)
	wantProjected(t, "too great a length", heldBody{b, nil}, 0, movedTo(b, vec(n, n, n), vec(n, n, n)))
	b = between(o, vec(1, 0, 0), math.MaxFloat32)
	wantProjected(t, "the greatest Long", heldBody{b, []int64{0}}, 0, movedTo(b, o, vec(math.MaxFloat32, 0, 0)))
}

func TestProjectSpringOfOtherSpringsFails(t *testing.T) {
	for i, h := range []heldBody{{mixedBody(), nil}, {bar(3, 1), []int64{0, 1}}, {impl.Body{}, nil}, {bodyOf(meshOf(9)), nil}, {rope(), []int64{1}}} {
		count := int64(len(h.b.Springs))
		for _, spring := range []int64{-1, count, count + 1, 200, 1 << 32, math.MinInt64, math.MaxInt64} {
			next, ok := impl.ProjectSpring(h.b, h.held, spring)
			wantNone(t, told("spring", spring, "of body", i), next, ok)
		}
	}
}

func TestProjectionsAreThoseOfTheText(t *testing.T) {
	for i, h := range sweptBodies() {
		for spring := range int64(len(h.b.Springs)) {
			if spring < 9 || spring%17 == 0 {
				next, ok := impl.ProjectSpring(h.b, h.held, spring)
				wantBody(t, told("spring", spring, "of body", i), next, ok, slowProject(h, spring))
			}
		}
	}
}

// TestProjectedSpringsHaveTheirLengths asks for it nearly.
func TestProjectedSpringsHaveTheirLengths(t *testing.T) {
	for i, b := range anyBodies()[:100] {
		for j, s := range b.Springs {
			for _, held := range [][]int64{nil, {s.A}, {s.B}} {
				next, _ := impl.ProjectSpring(b, held, int64(j))
				long := pointOf(next.Mesh.Places[s.B]).minus(pointOf(next.Mesh.Places[s.A])).long()
				if math.Abs(long-float64(s.Long)) > 1e-5 {
					t.Errorf("spring %d of body %d, held %v: %v instead of %v", j, i, held, long, s.Long)
				}
			}
		}
	}
}
