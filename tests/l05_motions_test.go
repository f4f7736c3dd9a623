package tests

import (
	"math"
	"testing"

	"loop.example/g01222/impl"
)

// wantMotion asks for a motion of a body whose places alone are others.
func wantMotion(t *testing.T, what string, got impl.Motion, ok bool, b impl.Body, places, speeds []impl.Vector) {
	t.Helper()
	wantVectors(t, what+", places", got.Body.Mesh.Places, ok, places)
	wantVectors(t, what+", speeds", got.Speeds, ok, speeds)
	want(t, what+", all but the places", changed(got.Body, func(c *impl.Body) { c.Mesh.Places = b.Mesh.Places }), b)
}

func TestValidMotion(t *testing.T) {
	d := dice(7)
	odd := oddNumbers()
	for i, b := range validBodies() {
		m := d.motionOf(b, func() float32 { return odd[d.below(len(odd))] })
		want(t, named("motion", i), impl.ValidMotion(m), true)
		want(t, named("still motion", i), impl.ValidMotion(impl.Motion{Body: b, Speeds: make([]impl.Vector, len(b.Mesh.Places))}), true)
	}
	for i, m := range invalidMotions() {
		want(t, named("invalid motion", i), impl.ValidMotion(m), false)
	}
	want(t, "no places", impl.ValidMotion(impl.Motion{}), true)
}

func TestStillMotion(t *testing.T) {
	for i, b := range validBodies() {
		m, ok := impl.StillMotion(b)
		wantMotion(t, named("still motion", i), m, ok, b, b.Mesh.Places, make([]impl.Vector, len(b.Mesh.Places)))
		want(t, named("still motion", i), impl.ValidMotion(m), true)
		energy, ok := impl.SpeedEnergy(m, 3)
		wantSum(t, named("energy of the still motion", i), energy, ok, 0)
	}
	for i, b := range invalidBodies() {
		m, ok := impl.StillMotion(b)
		wantNone(t, named("still motion of an invalid body", i), m, ok)
	}
}

func TestMotionsToTheLastBit(t *testing.T) {
	b := mixedBody()
	m := impl.Motion{Body: b, Speeds: repeat(vec(0.3, -0.1, 0.2), 6)}
	s := swing{held: []int64{1, 4}, mass: 0.7, damp: 0.9, tick: 0.05}
	next, ok := s.step(m)
	wantMotion(t, "one tick", next, ok, b, vectorsOfBits(
		0x3df4f4be, 0x3e3e3c6e, 0x3e955af2, 0x3fa66666, 0xbecccccd, 0x3f000000, 0x3f369bbf, 0x3ff1e2b2, 0xbf196faf,
		0xbf8ac195, 0x3f4bb9bf, 0x3f5f2494, 0x400ccccd, 0x3fb33333, 0x3fd9999a, 0x3f1c76d3, 0xbf98e315, 0xbf4b730f), vectorsOfBits(
		0x3ec8c7b7, 0xbe91a3b4, 0xbe29ca36, 0, 0, 0, 0x3e8855e1, 0xbe525086, 0x3c519601,
		0x3ea38176, 0xbdabe892, 0xbf11246d, 0, 0, 0, 0x3e6521cc, 0x3de425e7, 0x3dd816f3))
	end, energies, ok := s.run(m, 5)
	wantMotion(t, "five ticks", end, ok, b, vectorsOfBits(
		0x3e6c7ce4, 0x3d740c6b, 0x3de79c68, 0x3fa66666, 0xbecccccd, 0x3f000000, 0x3f408f35, 0x3fe77c97, 0xbf2c91a5,
		0xbf81617e, 0x3f48fc74, 0x3ee4c4b1, 0x400ccccd, 0x3fb33333, 0x3fd9999a, 0x3f205c35, 0xbf8bc8b6, 0xbf50a76e), vectorsOfBits(
		0x3f211bd8, 0xbf4abc83, 0xbfa111bb, 0, 0, 0, 0x3e1eb992, 0xbf007b5d, 0xbf14050b,
		0x3eca058c, 0xbd1e9df7, 0xc03b9939, 0, 0, 0, 0x3b982c0d, 0x3f331a38, 0xbe609487))
	want(t, "energies", energies, nums(0x415ee948, 0x414de12b, 0x4134bb90, 0x4114994f, 0x40dd1225))
	energy, ok := impl.SpeedEnergy(end, 0.7)
	wantSum(t, "energy of the speeds", energy, ok, num(0x408c0ad3))
}

func TestStepMotion(t *testing.T) {
	b := bar(3, 1)
	m := impl.Motion{Body: b, Speeds: []impl.Vector{vec(7, 8, 9), vec(1, 2, -4)}}
	still := []impl.Vector{{}, {}}
	cases := map[string]struct {
		s             swing
		place, speeds []impl.Vector
	}{
		"a tick":         {swing{[]int64{0}, 4, 1, 2}, []impl.Vector{{}, vec(3, 4, -8)}, []impl.Vector{{}, vec(0, 2, -4)}},
		"a lesser tick":  {swing{[]int64{0}, 4, 1, 0.5}, []impl.Vector{{}, vec(3.375, 1, -2)}, []impl.Vector{{}, vec(0.75, 2, -4)}},
		"damped":         {swing{[]int64{0}, 4, 0.25, 0.5}, []impl.Vector{{}, vec(3.09375, 0.25, -0.5)}, []impl.Vector{{}, vec(0.1875, 0.5, -1)}},
		"turned back":    {swing{[]int64{0}, 4, -2, 0.5}, []impl.Vector{{}, vec(2.25, -2, 4)}, []impl.Vector{{}, vec(-1.5, -4, 8)}},
		"stopped":        {swing{[]int64{0}, 4, 0, 2}, []impl.Vector{{}, vec(3, 0, 0)}, []impl.Vector{{}, vec(0, 0, num(minusZ))}},
		"all held":       {swing{[]int64{0, 1}, 4, 1, 2}, b.Mesh.Places, still},
		"none held":      {swing{nil, 4, 1, 2}, []impl.Vector{vec(16, 16, 18), vec(3, 4, -8)}, []impl.Vector{vec(8, 8, 9), vec(0, 2, -4)}},
		"other held":     {swing{[]int64{1}, 1, 1, 1}, []impl.Vector{vec(9, 8, 9), vec(3, 0, 0)}, []impl.Vector{vec(9, 8, 9), {}}},
		"no damp":        {swing{[]int64{0}, 4, num(nan), 2}, []impl.Vector{{}, vec(num(nan), num(nan), num(nan))}, []impl.Vector{{}, vec(num(nan), num(nan), num(nan))}},
		"infinite damp":  {swing{[]int64{0}, 4, num(negInf), 0.5}, []impl.Vector{{}, vec(num(negInf), num(negInf), num(inf))}, []impl.Vector{{}, vec(num(negInf), num(negInf), num(inf))}},
		"a great mass":   {swing{[]int64{0}, math.MaxFloat32, 1, 1}, []impl.Vector{{}, vec(4, 2, -4)}, []impl.Vector{{}, vec(1, 2, -4)}},
		"the least mass": {swing{[]int64{0}, num(1), 1, 1}, []impl.Vector{{}, vec(num(negInf), num(nan), num(nan))}, []impl.Vector{{}, vec(num(negInf), num(nan), num(nan))}},
		"the least tick": {swing{[]int64{0}, 1, 1, num(1)}, []impl.Vector{{}, vec(3, num(2), -num(4))}, []impl.Vector{{}, vec(1, 2, -4)}},
	}
	for what, c := range cases {
		next, ok := c.s.step(m)
		wantMotion(t, what, next, ok, b, c.place, c.speeds)
		end, energies, ok := c.s.run(m, 1)
		wantMotion(t, what+", run", end, ok, b, c.place, c.speeds)
		want(t, what+", energy", energies, []float32{slowEnergy(next.Body)})
	}
}

func TestMotionsAreThoseOfTheText(t *testing.T) {
	d := dice(8)
	odd := oddNumbers()
	numbers := []func() float32{d.number, func() float32 { return odd[d.below(len(odd))] }}
	for i, h := range append(validHeldBodies(), anyHeldBodies()...) {
		m := d.motionOf(h.b, numbers[i%2])
		for _, s := range []swing{{h.held, 1, 1, 0.1}, {h.held, 3.7, 0.93, 0.3}, {h.held, 0.03, odd[i%len(odd)], 7}} {
			var energies []float32
			expected := m
			for range i % 6 {
				expected = slowSwing(expected, s)
				energies = append(energies, slowEnergy(expected.Body))
			}
			end, list, ok := s.run(m, int64(i%6))
			wantMotion(t, told("motion", i, s), end, ok, h.b, expected.Body.Mesh.Places, expected.Speeds)
			want(t, told("energies", i, s), list, energies)
			next, ok := s.step(m)
			expected = slowSwing(m, s)
			wantMotion(t, told("step", i, s), next, ok, h.b, expected.Body.Mesh.Places, expected.Speeds)
		}
	}
}

func TestRunMotionTakesItsRounds(t *testing.T) {
	m := impl.Motion{Body: weight(0, 1), Speeds: []impl.Vector{{}}}
	s := swing{nil, 1, 1, 1}
	for _, rounds := range []int64{1, 2, 39, 40} {
		end, energies, ok := s.run(m, rounds)
		var expected []float32
		for i := int64(1); i <= rounds; i++ {
			expected = append(expected, -float32(i*(i+1)/2))
		}
		want(t, told("energies of", rounds), energies, expected)
		wantMotion(t, told("rounds", rounds), end, ok, m.Body,
			[]impl.Vector{vec(0, 0, expected[rounds-1])}, []impl.Vector{vec(0, 0, -float32(rounds))})
	}
	end, energies, ok := s.run(m, 0)
	wantMotion(t, "no rounds", end, ok, m.Body, m.Body.Mesh.Places, m.Speeds)
	want(t, "no energies", energies, []float32(nil))
	for _, rounds := range badRounds() {
		end, energies, ok := s.run(m, rounds)
		wantNone(t, told("motion of", rounds), end, ok)
		wantNone(t, told("energies of", rounds), energies, ok)
	}
	// Without rounds, nothing changes, not even the speeds of held places, or the signs of zeros.
	m = impl.Motion{Body: weight(num(minusZ), 1), Speeds: []impl.Vector{vec(num(nan), 3, num(minusZ))}}
	end, energies, ok = swing{[]int64{0}, 1, 1, 1}.run(m, 0)
	wantMotion(t, "a held place", end, ok, m.Body, m.Body.Mesh.Places, m.Speeds)
	want(t, "energies", energies, []float32(nil))
}

func TestRunMotionIsStepsOneAfterAnother(t *testing.T) {
	d := dice(9)
	for i, h := range anyHeldBodies() {
		m := d.motionOf(h.b, d.number)
		s := swing{h.held, 2, 0.8, 0.05}
		expected, energies := m, []float32(nil)
		for range 40 {
			expected = first(s.step(expected))
			energies = append(energies, first(impl.EnergyOf(expected.Body)))
		}
		end, list, ok := s.run(m, 40)
		wantMotion(t, named("motion", i), end, ok, h.b, expected.Body.Mesh.Places, expected.Speeds)
		want(t, named("energies", i), list, energies)
	}
}

func TestHeldPlacesOfMotionsStay(t *testing.T) {
	d := dice(10)
	odd := oddNumbers()
	for i, h := range append(validHeldBodies(), anyHeldBodies()...) {
		m := d.motionOf(h.b, func() float32 { return odd[d.below(len(odd))] })
		for _, s := range []swing{{h.held, 1, 1, 1}, {h.held, 1e-20, num(inf), 1e20}, {h.held, 5, num(nan), 0.1}} {
			for _, rounds := range []int64{1, 7} {
				end, _, ok := s.run(m, rounds)
				if !ok {
					t.Fatalf("motion %d fails", i)
				}
				wantHeld(t, told("motion", i, s), h, end.Body)
				for _, place := range h.held {
					wantVector(t, told("speed", i, s, place), end.Speeds[place], vec(0, 0, 0))
				}
			}
		}
	}
}

func TestMotionsThatAreNotAsAskedFail(t *testing.T) {
	b := mixedBody()
	m := impl.Motion{Body: b, Speeds: repeat(vec(1, 2, 3), 6)}
	fails := func(what string, m impl.Motion, s swing) {
		t.Helper()
		next, ok := s.step(m)
		wantNone(t, what+", step", next, ok)
		for _, rounds := range []int64{0, 1, 40} {
			end, energies, ok := s.run(m, rounds)
			wantNone(t, what+", run", end, ok)
			wantNone(t, what+", energies", energies, ok)
		}
	}
	for _, x := range badSteps() {
		fails(told("mass", x), m, swing{nil, x, 1, 1})
		fails(told("tick", x), m, swing{nil, 1, 1, x})
		fails(told("mass without places", x), impl.Motion{}, swing{nil, x, 1, 1})
		fails(told("tick without places", x), impl.Motion{}, swing{nil, 1, 1, x})
		energy, ok := impl.SpeedEnergy(m, x)
		wantNoSum(t, told("energy of the mass", x), energy, ok)
	}
	for i, m := range invalidMotions() {
		fails(named("invalid motion", i), m, swing{nil, 1, 1, 1})
		energy, ok := impl.SpeedEnergy(m, 1)
		wantNoSum(t, named("energy of an invalid motion", i), energy, ok)
	}
	for i, h := range invalidHeldBodies() {
		m := impl.Motion{Body: h.b, Speeds: make([]impl.Vector, len(h.b.Mesh.Places))}
		fails(named("invalid held places", i), m, swing{h.held, 1, 1, 1})
	}
}

func TestSpeedEnergy(t *testing.T) {
	b := bodyOf(meshOf(3))
	m := impl.Motion{Body: b, Speeds: []impl.Vector{vec(1, 2, 3), vec(0, -1, 0), vec(0.5, 0, 0)}}
	cases := []struct{ mass, energy float32 }{
		{1, 7.625}, {2, 15.25}, {0x1p100, 0x1.e8p102}, {math.MaxFloat32, num(inf)}, {num(4), num(30)},
		// Half of the least number is rounded to 0 before it is multiplied.
		{num(1), 0},
	}
	for _, c := range cases {
		energy, ok := impl.SpeedEnergy(m, c.mass)
		wantSum(t, told("mass", c.mass), energy, ok, c.energy)
	}
	// Half of the mass comes first: the product of all of it and 1.5 would be too great.
	m.Speeds = []impl.Vector{vec(1, 0.5, 0.5), {}, {}}
	energy, ok := impl.SpeedEnergy(m, math.MaxFloat32)
	wantSum(t, "the greatest mass", energy, ok, 0.75*math.MaxFloat32)
	energy, ok = impl.SpeedEnergy(impl.Motion{}, 1)
	wantSum(t, "no places", energy, ok, 0)
	for _, x := range nums(inf, negInf) {
		m.Speeds[1].Y = x
		energy, ok = impl.SpeedEnergy(m, 1)
		wantSum(t, told("speed", x), energy, ok, num(inf))
		energy, ok = impl.SpeedEnergy(m, num(1))
		wantSum(t, told("no half of a mass, and the speed", x), energy, ok, num(nan))
	}
	m.Speeds[2].Z = num(nan)
	energy, ok = impl.SpeedEnergy(m, 1)
	wantSum(t, "a speed that is a not-a-number", energy, ok, num(nan))
}

func TestSpeedEnergiesAreThoseOfTheText(t *testing.T) {
	d := dice(11)
	odd := oddNumbers()
	for i, b := range validBodies() {
		for _, m := range []impl.Motion{d.motionOf(b, d.number), d.motionOf(b, func() float32 { return odd[d.below(len(odd))] })} {
			for _, mass := range []float32{0.3, 7, num(3), 1e38} {
				expected := rounded(rounded(0.5*float64(mass)) * slowInner(m.Speeds, m.Speeds))
				energy, ok := impl.SpeedEnergy(m, mass)
				wantSum(t, told("motion", i, mass), energy, ok, float32(expected))
			}
		}
	}
}
