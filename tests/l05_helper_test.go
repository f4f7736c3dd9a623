package tests

import (
	"math"

	"loop.example/g01222/impl"
)

// heldBody is a body with held places.
type heldBody struct {
	b    impl.Body
	held []int64
}

// some returns a set of about one in so many places of a body.
func (d *dice) some(b impl.Body, oneIn int) []int64 {
	var list []int64
	for place := range int64(len(b.Mesh.Places)) {
		if d.below(oneIn) == 0 {
			list = append(list, place)
		}
	}
	return list
}

// validHeldBodies are bodies of all kinds with no held places, with some, and with all of them.
func validHeldBodies() []heldBody {
	d := dice(5)
	var list []heldBody
	for _, b := range validBodies() {
		list = append(list, heldBody{b, nil}, heldBody{b, d.some(b, 3)}, heldBody{b, d.some(b, 1)})
	}
	return list
}

// anyHeldBodies have numbers of usual size, and then of all kinds.
func anyHeldBodies() []heldBody {
	d := dice(6)
	var list []heldBody
	for _, b := range append(anyBodies()[:150], oddBodies()[:300]...) {
		list = append(list, heldBody{b, d.some(b, 2+d.below(4))})
	}
	return list
}

// invalidHeldBodies break one rule each.
func invalidHeldBodies() []heldBody {
	b := mixedBody()
	var list []heldBody
	for _, held := range [][]int64{
		{6}, {0, 6}, {7}, {64}, {256}, {1 << 32}, {1<<32 + 1}, {math.MaxInt64}, {0, math.MaxInt64}, {0, 1, 2, 3, 4, 5, 6},
		{-1}, {-1, 0}, {3, -1}, {math.MinInt64}, {math.MinInt64, 0}, {math.MaxInt64, 0}, {math.MaxInt64, math.MinInt64},
		{0, 0}, {5, 5}, {0, 2, 2}, {2, 2, 5}, {1, 0}, {5, 3}, {0, 3, 1, 5}, {4, 5, 0}, {0, 1, 2, 3, 4, 5, 5},
		repeat[int64](2, 6), repeat[int64](0, 5000),
	} {
		list = append(list, heldBody{b, held})
	}
	list = append(list, heldBody{impl.Body{}, []int64{0}}, heldBody{impl.Body{}, []int64{-1}}, heldBody{bodyOf(meshOf(64)), []int64{64}})
	for _, b := range invalidBodies() {
		list = append(list, heldBody{b, nil}, heldBody{b, []int64{0}})
	}
	return list
}

// bar is a spring with the stiffness 1 along X, whose first place is to be held at +0, +0, +0.
func bar(x, long float32) impl.Body {
	return bodyOf(impl.Mesh{Places: []impl.Vector{{}, vec(x, 0, 0)}}, spring(0, 1, long, 1))
}

// weight is a place at some height whose energy is less the lower it is.
func weight(height, weight float32) impl.Body {
	b := bodyOf(impl.Mesh{Places: []impl.Vector{vec(0, 0, height)}})
	b.Weights[0], b.Fall = weight, vec(0, 0, -1)
	return b
}

// badSteps are no finite numbers greater than 0.
func badSteps() []float32 {
	return nums(0, minusZ, 0x80000001, 0xbf800000, 0xff7fffff, inf, negInf, nan, 0xffc00001)
}

// badRounds are not from 0 to the limit.
func badRounds() []int64 {
	return []int64{-1, -40, 41, 42, 1 << 32, 1<<32 + 1, math.MinInt64, math.MaxInt64}
}

// slowFree computes the free forces from the document's text.
func slowFree(h heldBody) []impl.Vector {
	forces := slowForces(h.b)
	for _, place := range h.held {
		forces[place] = vec(0, 0, 0)
	}
	return forces
}

// slowMoved computes where places are moved to.
func slowMoved(b impl.Body, by []impl.Vector, share float64) impl.Body {
	return changed(b, func(b *impl.Body) {
		for i, p := range b.Mesh.Places {
			b.Mesh.Places[i] = vectorOf(pointOf(p).plus(pointOf(by[i]).times(share)))
		}
	})
}

// slowStep computes a step along any direction.
func slowStep(b impl.Body, by []impl.Vector, step float32) (impl.Body, int64, bool) {
	energy, share := slowEnergy(b), float64(step)
	moved := slowMoved(b, by, share)
	halves := int64(0)
	for !(slowEnergy(moved) < energy) {
		if halves == 20 {
			return b, 20, false
		}
		share = rounded(share / 2)
		halves++
		moved = slowMoved(b, by, share)
	}
	return moved, halves, true
}

// slowRun computes some steps, and the energies.
func slowRun(h heldBody, step float32, rounds int64) (impl.Body, []float32) {
	energies := []float32{slowEnergy(h.b)}
	for range rounds {
		next, _, less := slowStep(h.b, slowFree(h), step)
		if !less {
			break
		}
		h.b = next
		energies = append(energies, slowEnergy(next))
	}
	return h.b, energies
}

func slowInner(a, b []impl.Vector) float64 {
	sum := 0.0
	for i := range a {
		sum = rounded(sum + pointOf(a[i]).inner(pointOf(b[i])))
	}
	return sum
}

// slowTurn computes some steps along turned directions, and tells how often just the forces helped.
func slowTurn(h heldBody, step float32, rounds int64) (last impl.Body, steps, again int64) {
	direction := slowFree(h)
	for range rounds {
		f := slowFree(h)
		next, _, less := slowStep(h.b, direction, step)
		if !less {
			direction = f
			if next, _, less = slowStep(h.b, direction, step); !less {
				break
			}
			again++
		}
		steps++
		h.b = next
		g := slowFree(h)
		turn := 0.0
		if square := slowInner(f, f); square > 0 {
			turn = rounded(slowInner(g, g) / square)
		}
		turned := make([]impl.Vector, len(g))
		for i := range g {
			turned[i] = vectorOf(pointOf(g[i]).plus(pointOf(direction[i]).times(turn)))
		}
		direction = turned
	}
	return h.b, steps, again
}

// swing tells what a motion is made with.
type swing struct {
	held             []int64
	mass, damp, tick float32
}

func (s swing) step(m impl.Motion) (impl.Motion, bool) {
	return impl.StepMotion(m, s.held, s.mass, s.damp, s.tick)
}

func (s swing) run(m impl.Motion, rounds int64) (impl.Motion, []float32, bool) {
	return impl.RunMotion(m, s.held, s.mass, s.damp, s.tick, rounds)
}

// slowSwing computes a motion behind a tick.
func slowSwing(m impl.Motion, s swing) impl.Motion {
	forces := slowForces(m.Body)
	share := rounded(float64(s.tick) / float64(s.mass))
	speeds := make([]impl.Vector, len(m.Speeds))
	for i, speed := range m.Speeds {
		speeds[i] = vectorOf(pointOf(speed).plus(pointOf(forces[i]).times(share)).times(float64(s.damp)))
	}
	for _, place := range s.held {
		speeds[place] = vec(0, 0, 0)
	}
	return impl.Motion{Body: slowMoved(m.Body, speeds, float64(s.tick)), Speeds: speeds}
}

// motionOf makes a motion with any speeds.
func (d *dice) motionOf(b impl.Body, number func() float32) impl.Motion {
	m := impl.Motion{Body: b}
	for range b.Mesh.Places {
		m.Speeds = append(m.Speeds, vec(number(), number(), number()))
	}
	return m
}

// spareMotion copies a motion so that each of its lists has unused capacity.
func spareMotion(m impl.Motion) impl.Motion {
	return impl.Motion{Body: spareBody(m.Body), Speeds: append(make([]impl.Vector, 0, len(m.Speeds)+3), m.Speeds...)}
}

// invalidMotions break one rule each.
func invalidMotions() []impl.Motion {
	b := mixedBody()
	list := []impl.Motion{
		{Body: b}, {Body: b, Speeds: []impl.Vector{}}, {Body: b, Speeds: make([]impl.Vector, 5)}, {Body: b, Speeds: make([]impl.Vector, 7)},
		{Body: b, Speeds: make([]impl.Vector, 300)}, {Speeds: make([]impl.Vector, 1)}, {Speeds: make([]impl.Vector, 64)},
		{Body: bodyOf(meshOf(64)), Speeds: make([]impl.Vector, 63)}, {Body: bodyOf(meshOf(64)), Speeds: make([]impl.Vector, 65)},
	}
	for _, b := range invalidBodies() {
		list = append(list, impl.Motion{Body: b, Speeds: make([]impl.Vector, len(b.Mesh.Places))})
	}
	return list
}
