package tests

import (
	"fmt"
	"math"
	"testing"

	"loop.example/g01222/impl"
)

// net is a grid as large as allowed, with a spring for each edge, and all kinds of energies.
func net() impl.Body {
	grid, _ := impl.GridMesh(7, 7, 0.7)
	b, _ := impl.SpringEdges(grid, 1.3)
	d := dice(21)
	for i, place := range b.Mesh.Places {
		b.Mesh.Places[i] = vectorOf(pointOf(place).plus(pointOf(d.vector()).times(0.05)))
		b.Weights[i] = d.number()
	}
	b.Film, b.Bend, b.Fall = 0.4, 0.15, d.vector()
	return b
}

// bundle has springs without common places, as many as there can be.
func bundle() impl.Body {
	d := dice(22)
	b := bodyOf(impl.Mesh{})
	for i := range int64(64) {
		b.Mesh.Places = append(b.Mesh.Places, d.vector())
		b.Weights = append(b.Weights, 0)
		if i%2 == 1 {
			b.Springs = append(b.Springs, spring(i, i-1, 0.5, 1))
		}
	}
	return b
}

// hub has a spring between its first place and each other one, so that no two have the same colour.
func hub() impl.Body {
	b := bundle()
	b.Springs = nil
	for i := range int64(63) {
		b.Springs = append(b.Springs, spring(i%2*(i+1), (i+1)%2*(i+1), 1.5, 1))
	}
	return b
}

// rope has 200 springs between the same two places.
func rope() impl.Body {
	return bodyOf(impl.Mesh{Places: []impl.Vector{vec(0.1, 0.2, 0.3), vec(3, -1, 2)}}, repeat(spring(0, 1, 2, 1), 200)...)
}

// chain has a spring between each place and the next one.
func chain(places int, long float32) impl.Body {
	var springs []impl.Spring
	for i := range int64(places - 1) {
		springs = append(springs, spring(i, i+1, long, 1))
	}
	return bodyOf(meshOf(places), springs...)
}

// crowd has 200 springs between any of 64 places.
func crowd() impl.Body {
	d := dice(23)
	b := bundle()
	for len(b.Springs) < 200 {
		a := d.below(64)
		b.Springs = append(b.Springs, spring(int64(a), int64((a+1+d.below(63))%64), float32(d.below(5)), 1))
	}
	return b
}

// largeBodies have many springs, or places in many blocks.
func largeBodies() []impl.Body {
	return []impl.Body{net(), bundle(), hub(), rope(), chain(64, 2), chain(63, 5), crowd()}
}

// sweptBodies are bodies of all kinds and sizes, with held places.
func sweptBodies() []heldBody {
	d := dice(24)
	list := append(validHeldBodies(), anyHeldBodies()[100:250]...)
	for _, b := range largeBodies() {
		list = append(list, heldBody{b, nil}, heldBody{b, d.some(b, 2)}, heldBody{b, d.some(b, 9)}, heldBody{b, d.some(b, 1)})
	}
	return list
}

// badWorkers are not from 1 to the limit.
func badWorkers() []int64 {
	return []int64{0, -1, -8, 9, 10, 64, 1 << 32, 1<<32 + 1, math.MinInt64, math.MaxInt64}
}

// badColours are not from 0 to the limit.
func badColours() []int64 {
	return []int64{-1, -200, 201, 202, 256, 1 << 32, math.MinInt64, math.MaxInt64}
}

// meet reports whether springs have a common place.
func meet(s, t impl.Spring) bool { return s.A == t.A || s.A == t.B || s.B == t.A || s.B == t.B }

// slowColours computes colours from the document's text.
func slowColours(b impl.Body) []int64 {
	var colours []int64
	for i, s := range b.Springs {
		taken := map[int64]bool{}
		for j, earlier := range b.Springs[:i] {
			if meet(s, earlier) {
				taken[colours[j]] = true
			}
		}
		colour := int64(0)
		for taken[colour] {
			colour++
		}
		colours = append(colours, colour)
	}
	return colours
}

// slowCount tells how many different colours there are.
func slowCount(colours []int64) int64 {
	seen := map[int64]bool{}
	for _, colour := range colours {
		seen[colour] = true
	}
	return int64(len(seen))
}

// slowProject computes a projection.
func slowProject(h heldBody, i int64) impl.Body {
	s := h.b.Springs[i]
	a, b := pointOf(h.b.Mesh.Places[s.A]), pointOf(h.b.Mesh.Places[s.B])
	d, g := b.minus(a), 0.0
	if e := d.long(); e > 0 {
		g = rounded(rounded(e-float64(s.Long)) / e)
	}
	half := rounded(0.5 * g)
	aHeld, bHeld := holds(h.held, s.A), holds(h.held, s.B)
	return changed(h.b, func(body *impl.Body) {
		if !aHeld && !bHeld {
			body.Mesh.Places[s.A] = vectorOf(a.plus(d.times(half)))
			body.Mesh.Places[s.B] = vectorOf(b.plus(d.times(-half)))
		}
		if !aHeld && bHeld {
			body.Mesh.Places[s.A] = vectorOf(a.plus(d.times(g)))
		}
		if aHeld && !bHeld {
			body.Mesh.Places[s.B] = vectorOf(b.plus(d.times(-g)))
		}
	})
}

// slowClass computes the projections of all springs with a colour.
func slowClass(h heldBody, colours []int64, colour int64) impl.Body {
	for i := range h.b.Springs {
		if colours[i] == colour {
			h.b = slowProject(h, int64(i))
		}
	}
	return h.b
}

// slowSweep computes rounds of all colours.
func slowSweep(h heldBody, rounds int64) impl.Body {
	colours := slowColours(h.b)
	for range rounds {
		for colour := range slowCount(colours) {
			h.b = slowClass(h, colours, colour)
		}
	}
	return h.b
}

// slowShares deals things out, one by one, and tells what each worker has then.
func slowShares(count, workers int64) [][]int64 {
	shares := make([][]int64, workers)
	for i := range shares {
		shares[i] = []int64{0, 0}
	}
	for i := range count {
		shares[i%workers][1]++
	}
	for i := range shares[1:] {
		shares[i+1][0] = shares[i][0] + shares[i][1]
	}
	return shares
}

// slowWorst finds the spring that is farthest from its length, if there is one.
func slowWorst(b impl.Body) (worst int64, most float32, found bool) {
	at := pointsOf(b.Mesh.Places)
	for i, s := range b.Springs {
		off := rounded(math.Abs(rounded(at[s.B].minus(at[s.A]).long() - float64(s.Long))))
		if off == off && (!found || off > float64(most)) {
			worst, most, found = int64(i), float32(off), true
		}
	}
	return worst, most, found
}

// slowChecks computes the check numbers of blocks from their texts.
func slowChecks(b impl.Body) []int64 {
	var checks []int64
	for from := 0; from < len(b.Mesh.Places); from += 8 {
		text := ""
		for _, p := range b.Mesh.Places[from:min(from+8, len(b.Mesh.Places))] {
			text += fmt.Sprintf("%08x,%08x,%08x", bitsOf(p.X), bitsOf(p.Y), bitsOf(p.Z))
		}
		check := int64(0)
		for _, c := range []byte(text) {
			check = (701*check + int64(c) + 47) % 65003
		}
		checks = append(checks, check)
	}
	return checks
}

// movedTo returns a body with other places, the first ones of all.
func movedTo(b impl.Body, places ...impl.Vector) impl.Body {
	return changed(b, func(b *impl.Body) { copy(b.Mesh.Places, places) })
}

// wantBody asks for a body by its text, which tells all bits but those of not-a-numbers.
func wantBody(t *testing.T, what string, got impl.Body, ok bool, expected impl.Body) {
	t.Helper()
	if !ok {
		t.Errorf("%s failed", what)
	}
	if told(got) != told(expected) {
		t.Errorf("%s: got %v, want %v", what, got, expected)
	}
}
