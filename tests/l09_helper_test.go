package tests

import (
	"math"
	"slices"
	"testing"

	"loop.example/g01222/impl"
)

// sway is a body with held places, and two lists with a vector for each place.
type sway struct {
	b        impl.Body
	held     []int64
	v, first []impl.Vector
}

func (s sway) times(step float32) ([]impl.Vector, bool) {
	return impl.StiffTimes(s.b, s.held, s.v, step)
}

func (s sway) rayleigh(step float32) (float32, bool) {
	return impl.RayleighOf(s.b, s.held, s.v, step)
}

func (s sway) great(step float32, rounds int64) ([]impl.Vector, float32, bool) {
	return impl.GreatMode(s.b, s.held, s.v, step, rounds)
}

func (s sway) soft(step, shift float32, rounds int64) ([]impl.Vector, float32, bool) {
	return impl.SoftMode(s.b, s.held, s.v, step, shift, rounds)
}

func (s sway) next(step float32, rounds int64) ([]impl.Vector, float32, bool) {
	return impl.NextMode(s.b, s.held, s.v, s.first, step, rounds)
}

func (s sway) buckles(step, shift float32, rounds int64) (bool, bool) {
	return impl.CanBuckle(s.b, s.held, s.v, step, shift, rounds)
}

func (s sway) energies(step float32, count int64) ([]float32, bool) {
	return impl.EnergiesAlong(s.b, s.v, step, count)
}

func (s sway) pushed(size, step float32) (impl.Body, bool) {
	return impl.PushedBody(s.b, s.v, size, step)
}

// with returns the same with another first list.
func (s sway) with(v []impl.Vector) sway {
	s.v = v
	return s
}

// holding returns the same with other held places.
func (s sway) holding(held ...int64) sway {
	s.held = held
	return s
}

// list returns so many vectors.
func (d *dice) list(n int, number func() float32) []impl.Vector {
	var list []impl.Vector
	for range n {
		list = append(list, vec(number(), number(), number()))
	}
	return list
}

func (d *dice) sway(h heldBody, number func() float32) sway {
	n := len(h.b.Mesh.Places)
	return sway{h.b, h.held, d.list(n, number), d.list(n, number)}
}

// usualSways have vectors of usual size.
func usualSways() []sway {
	d := dice(41)
	var list []sway
	for _, h := range append(validHeldBodies(), anyHeldBodies()[:200]...) {
		list = append(list, d.sway(h, d.number))
	}
	return list
}

// oddSways have vectors of all kinds, some of them many and some few, and lists that are zero, in all or when they are made free.
func oddSways() []sway {
	d := dice(42)
	odd := oddNumbers()
	var list []sway
	for i, h := range append(validHeldBodies(), anyHeldBodies()[:300]...) {
		list = append(list, d.sway(h, func() float32 {
			switch d.below(1 + i%20) {
			case 0:
				return odd[d.below(len(odd))]
			case 1:
				return num(uint32(d.below(2)) << 31)
			}
			return d.number()
		}))
		none := make([]impl.Vector, len(h.b.Mesh.Places))
		some := slices.Clone(none)
		for _, place := range h.held {
			some[place] = d.vector()
		}
		list = append(list, sway{h.b, h.held, some, none}, sway{h.b, h.held, d.list(len(none), d.number), some})
	}
	return list
}

func allSways() []sway { return append(usualSways(), oddSways()...) }

// invalidSways break one rule each.
func invalidSways() []sway {
	var list []sway
	for _, h := range invalidHeldBodies() {
		some := repeat(vec(1, -2, 0.5), len(h.b.Mesh.Places))
		list = append(list, sway{h.b, h.held, some, some})
	}
	return list
}

// misfits are bodies with lists that are too short or too long for them.
func misfits() []sway {
	var list []sway
	for _, b := range []impl.Body{{}, bodyOf(meshOf(1)), bar(3, 1), mixedBody(), bodyOf(meshOf(64))} {
		places := len(b.Mesh.Places)
		for _, n := range []int{0, 1, 2, 3, 5, 6, 7, 63, 64, 65, 255, 256, 257, 5000} {
			if n != places {
				list = append(list, sway{b, nil, repeat(vec(1, 0, 0), n), repeat(vec(0, 1, 0), places)})
			}
		}
	}
	return list
}

// mixedSway has lists without any zeros.
func mixedSway(held ...int64) sway {
	return sway{mixedBody(), held, []impl.Vector{
		vec(0.3, -0.7, 1.1), vec(2.3, 0.4, -0.6), vec(-1.2, 0.9, 0.1), vec(0.5, 0.5, -0.5), vec(1.5, -2.5, 0.25), vec(-0.1, 0.6, -1.4),
	}, []impl.Vector{
		vec(1, 0.2, -0.3), vec(0.4, 0.4, 0.6), vec(0.7, -1.9, 0.2), vec(-0.8, 0.1, 0.9), vec(0.3, -0.5, 1.25), vec(1.1, -0.6, 0.4),
	}}
}

// barSway goes along a vector at the end of a bar, the other end of which is held.
func barSway(b impl.Body, v impl.Vector) sway {
	return sway{b, []int64{0}, []impl.Vector{{}, v}, []impl.Vector{{}, {}}}
}

// The slow functions compute from the document's text.

func slowMadeFree(held []int64, v []impl.Vector) []impl.Vector {
	list := append([]impl.Vector{}, v...)
	for _, place := range held {
		list[place] = vec(0, 0, 0)
	}
	return list
}

func slowTimes(s sway, step float32) []impl.Vector {
	v := slowMadeFree(s.held, s.v)
	share := rounded(1 / rounded(2*float64(step)))
	back, ahead := slowForces(slowMoved(s.b, v, -float64(step))), slowForces(slowMoved(s.b, v, float64(step)))
	list := make([]impl.Vector, len(v))
	for i := range v {
		list[i] = vectorOf(pointOf(back[i]).minus(pointOf(ahead[i])).times(share))
	}
	return slowMadeFree(s.held, list)
}

func slowNorm(v []impl.Vector) ([]impl.Vector, bool) {
	square := slowInner(v, v)
	if !isLength(float32(square)) {
		return nil, false
	}
	share := rounded(1 / rounded(math.Sqrt(square)))
	list := make([]impl.Vector, len(v))
	for i := range v {
		list[i] = vectorOf(pointOf(v[i]).times(share))
	}
	return list, isLength(float32(share))
}

func slowWithout(v, w []impl.Vector) []impl.Vector {
	share := 0.0
	if square := slowInner(w, w); square > 0 {
		share = rounded(slowInner(v, w) / square)
	}
	list := make([]impl.Vector, len(v))
	for i := range v {
		list[i] = vectorOf(pointOf(v[i]).minus(pointOf(w[i]).times(share)))
	}
	return list
}

func slowRayleigh(s sway, step float32) (float64, bool) {
	v := slowMadeFree(s.held, s.v)
	square := slowInner(v, v)
	if !(square > 0) {
		return 0, false
	}
	return rounded(slowInner(v, slowTimes(s, step)) / square), true
}

// slowMode takes the first list as it is.
func slowMode(s sway, step float32, rounds int64, next func(s sway) []impl.Vector) ([]impl.Vector, float64, bool) {
	for range rounds {
		unit, ok := slowNorm(next(s))
		if !ok {
			return nil, 0, false
		}
		s.v = unit
	}
	stiff, ok := slowRayleigh(s, step)
	if !ok {
		return nil, 0, false
	}
	return s.v, stiff, true
}

func slowGreat(s sway, step float32, rounds int64) ([]impl.Vector, float64, bool) {
	s.v = slowMadeFree(s.held, s.v)
	return slowMode(s, step, rounds, func(s sway) []impl.Vector { return slowTimes(s, step) })
}

func slowSoft(s sway, step, shift float32, rounds int64) ([]impl.Vector, float64, bool) {
	s.v = slowMadeFree(s.held, s.v)
	return slowMode(s, step, rounds, func(s sway) []impl.Vector {
		list := slowTimes(s, step)
		for i := range list {
			list[i] = vectorOf(pointOf(s.v[i]).times(float64(shift)).minus(pointOf(list[i])))
		}
		return list
	})
}

func slowNext(s sway, step float32, rounds int64) ([]impl.Vector, float64, bool) {
	first := slowMadeFree(s.held, s.first)
	s.v = slowWithout(slowMadeFree(s.held, s.v), first)
	return slowMode(s, step, rounds, func(s sway) []impl.Vector { return slowWithout(slowTimes(s, step), first) })
}

func slowEnergiesAlong(s sway, step float32, count int64) []float32 {
	var list []float32
	for k := -count; k <= count; k++ {
		list = append(list, slowEnergy(slowMoved(s.b, s.v, rounded(float64(step)*float64(k)))))
	}
	return list
}

func slowPushed(s sway, size, step float32) impl.Body {
	by := rounded(float64(size) * float64(step))
	ahead, back := slowMoved(s.b, s.v, by), slowMoved(s.b, s.v, -by)
	if slowEnergy(ahead) > slowEnergy(back) {
		return back
	}
	return ahead
}

// wantMode asks for a mode and its stiffness.
func wantMode(t *testing.T, what string, v []impl.Vector, stiff float32, ok bool, list []impl.Vector, expected float64) {
	t.Helper()
	wantOk(t, what, v, ok, list)
	wantNumber(t, what+", stiffness", stiff, float32(expected))
}

func wantNoMode(t *testing.T, what string, v []impl.Vector, stiff float32, ok bool) {
	t.Helper()
	wantNone(t, what, v, ok)
	wantNoSum(t, what, stiff, ok)
}

// wantModeIf asks for a mode, or for a failure if there is none.
func wantModeIf(t *testing.T, exists bool, what string, v []impl.Vector, stiff float32, ok bool, list []impl.Vector, expected float64) {
	t.Helper()
	if exists {
		wantMode(t, what, v, stiff, ok, list, expected)
	} else {
		wantNoMode(t, what, v, stiff, ok)
	}
}
