package tests

import (
	"math"
	"testing"

	"loop.example/g01222/impl"
)

// wantStep asks for a step that makes the energy less.
func wantStep(t *testing.T, what string, b impl.Body, halves int64, less, ok bool, expected impl.Body, times int64) {
	t.Helper()
	if !ok || !less || halves != times {
		t.Errorf("%s: %d halves, %v, %v; want %d", what, halves, less, ok, times)
	}
	want(t, what, b, expected)
}

// wantStay asks for a step that never helps.
func wantStay(t *testing.T, what string, h heldBody, step float32) {
	t.Helper()
	b, halves, less, ok := impl.StepDown(h.b, h.held, step)
	if !ok || less || halves != 20 {
		t.Errorf("%s: %d halves, %v, %v; want 20 in vain", what, halves, less, ok)
	}
	want(t, what, b, h.b)
	b, energies, ok := impl.RunDown(h.b, h.held, step, 40)
	wantOk(t, what+", run", b, ok, h.b)
	want(t, what+", energies", energies, []float32{slowEnergy(h.b)})
	b, count, ok := impl.TurnDown(h.b, h.held, step, 40)
	wantOk(t, what+", turned", b, ok, h.b)
	want(t, what+", turned steps", count, 0)
}

func TestStepDownToTheLastBit(t *testing.T) {
	b, held := mixedBody(), []int64{1, 4}
	cases := []struct {
		step   float32
		halves int64
		energy uint32
		bits   []uint32 // of the places 0, 2, 3 and 5
	}{
		{0.05, 0, 0x40980410, []uint32{0x3e47af45, 0x3d47b80c, 0x3cfe3ff0, 0x3f327598, 0x3fe7b677, 0xbf3ae499,
			0xbf87e322, 0x3f4e01b6, 0x3ea357d6, 0x3f1064b9, 0xbf858caa, 0xbf5ba19c}},
		{3, 1, 0xc2abf92a, []uint32{0x403ccf07, 0xc08aca77, 0xc0f89aea, 0x3f1cfafb, 0xbf4ad5b6, 0xc0900c6e,
			0x3d52a980, 0x3f710010, 0xc1843ba1, 0xbef53170, 0x405ff53b, 0xc0226f44}},
		{100, 6, 0xc2a35098, []uint32{0x404468b8, 0xc090d72b, 0xc101ae8d, 0x3f1c0df8, 0xbf678d8e, 0xc0954026,
			0x3dcb9620, 0x3f728233, 0xc18a0ae9, 0xbf061ad0, 0x406c7d51, 0xc02711c4}},
	}
	for _, c := range cases {
		expected := changed(b, func(b *impl.Body) {
			for i, place := range []int{0, 2, 3, 5} {
				b.Mesh.Places[place] = vectorsOfBits(c.bits...)[i]
			}
		})
		next, halves, less, ok := impl.StepDown(b, held, c.step)
		wantStep(t, told("step of", c.step), next, halves, less, ok, expected, c.halves)
		energy, ok := impl.EnergyOf(next)
		wantSum(t, told("energy behind", c.step), energy, ok, num(c.energy))
	}
}

// TestStepDownHalvesAsOftenAsNeeded takes a spring that is brought to rest by a step of 1, and to the same energy by one of 2.
func TestStepDownHalvesAsOftenAsNeeded(t *testing.T) {
	b, held := bar(101, 100), []int64{0}
	for halves := range int64(21) {
		scale := float32(math.Ldexp(1, int(halves)))
		next, n, less, ok := impl.StepDown(b, held, scale)
		wantStep(t, told("to rest from", scale), next, n, less, ok, bar(100, 100), halves)
		next, n, less, ok = impl.StepDown(b, held, 1.5*scale)
		wantStep(t, told("over rest from", scale), next, n, less, ok, bar(99.5, 100), halves)
	}
	next, halves, less, ok := impl.StepDown(b, held, 0.25)
	wantStep(t, "a small step", next, halves, less, ok, bar(100.75, 100), 0)
	wantStay(t, "one halving too many", heldBody{b, held}, 0x1p21)
	wantStay(t, "a very great step", heldBody{b, held}, math.MaxFloat32)
}

func TestStepsThatNeverHelp(t *testing.T) {
	z := num(minusZ)
	wantStay(t, "a body without places", heldBody{}, 1)
	wantStay(t, "a body without energies", heldBody{bodyOf(meshOf(64)), nil}, 1)
	wantStay(t, "a body at rest", heldBody{bar(1, 1), []int64{0}}, 0.5)
	wantStay(t, "held everywhere", heldBody{bar(3, 1), []int64{0, 1}}, 1)
	wantStay(t, "the mixed body held everywhere", heldBody{mixedBody(), []int64{0, 1, 2, 3, 4, 5}}, 1)
	wantStay(t, "too small a step", heldBody{bar(3, 1), []int64{0}}, 1e-30)
	wantStay(t, "the least step", heldBody{bar(3, 1), []int64{0}}, num(1))
	// All zeros keep their signs, which +0 times a step would change if it were added.
	zeros := bodyOf(impl.Mesh{Places: []impl.Vector{vec(z, z, z), vec(z, 1, z), vec(0, z, 0)}}, spring(0, 1, 1, 1))
	wantStay(t, "zeros with signs", heldBody{zeros, []int64{0}}, 1)
}

func TestStepsFromEnergiesThatAreNotFinite(t *testing.T) {
	b := weight(num(negInf), 1)
	wantNumber(t, "negative infinity", first(impl.EnergyOf(b)), num(negInf))
	wantStay(t, "from the negative infinity", heldBody{b, nil}, 1)
	b = weight(num(inf), 1)
	wantNumber(t, "infinity", first(impl.EnergyOf(b)), num(inf))
	wantStay(t, "from the infinity to itself", heldBody{b, nil}, 1)
	b = weight(num(nan), 1)
	wantStay(t, "from a not-a-number", heldBody{b, nil}, 1)
	b = bar(3, 1)
	b.Fall = vec(num(nan), 0, 0)
	wantStay(t, "from a sum that is a not-a-number", heldBody{b, []int64{0}}, 1)

	stiff := bar(0x1p63, 0)
	stiff.Springs[0].Stiff = 8
	wantNumber(t, "too great an energy", first(impl.EnergyOf(stiff)), num(inf))
	next, halves, less, ok := impl.StepDown(stiff, []int64{0}, 0.125)
	wantStep(t, "from the infinity", next, halves, less, ok, changed(stiff, func(b *impl.Body) { b.Mesh.Places[1].X = 0 }), 0)
	next, halves, less, ok = impl.StepDown(stiff, []int64{0}, 0.5)
	wantStep(t, "from the infinity over itself", next, halves, less, ok, changed(stiff, func(b *impl.Body) { b.Mesh.Places[1].X = 0 }), 2)
	// A step of 0.125 would make the energy 0, but no number is less than a not-a-number.
	stiff.Springs = []impl.Spring{spring(0, 1, 0, 16), spring(0, 1, 0, -8)}
	wantNumber(t, "infinities of both signs", first(impl.EnergyOf(stiff)), num(nan))
	rest, _ := impl.MovePlaces(stiff, first(impl.FreeForces(stiff, []int64{0})), 0.125)
	wantNumber(t, "energy at rest", first(impl.EnergyOf(rest)), 0)
	wantStay(t, "from infinities of both signs", heldBody{stiff, []int64{0}}, 0.125)
}

func TestStepsToEnergiesThatAreNotFinite(t *testing.T) {
	b := weight(0, 2)
	next, halves, less, ok := impl.StepDown(b, nil, math.MaxFloat32)
	wantStep(t, "to the negative infinity", next, halves, less, ok, weight(num(negInf), 2), 0)
	b, energies, ok := impl.RunDown(b, nil, math.MaxFloat32, 40)
	wantOk(t, "run to the negative infinity", b, ok, weight(num(negInf), 2))
	want(t, "energies", energies, nums(0, negInf))
	b, count, ok := impl.TurnDown(weight(0, 2), nil, math.MaxFloat32, 40)
	wantOk(t, "turned to the negative infinity", b, ok, weight(num(negInf), 2))
	want(t, "turned steps", count, 1)

	// With a great step, the area of the triangle is infinite, and the film of +0 makes a not-a-number of it.
	film := changed(bar(0x1.1p44, 0x1p44), func(b *impl.Body) {
		b.Mesh.Places = append(b.Mesh.Places, vec(0, 1024, 0))
		b.Mesh.Triangles = [][]int64{tri(0, 1, 2)}
		b.Weights = append(b.Weights, 0)
	})
	held := []int64{0, 2}
	far, _ := impl.MovePlaces(film, first(impl.FreeForces(film, held)), 0x1p20)
	wantNumber(t, "energy behind a great step", first(impl.EnergyOf(far)), num(nan))
	next, halves, less, ok = impl.StepDown(film, held, 0x1p20)
	wantStep(t, "over not-a-numbers", next, halves, less, ok, changed(film, func(b *impl.Body) { b.Mesh.Places[1].X = 0x1p44 }), 20)
	wantStay(t, "one halving too many", heldBody{film, held}, 0x1p21)
}

func TestStepsOfAllSizes(t *testing.T) {
	next, halves, less, ok := impl.StepDown(weight(0, 0x1p100), nil, num(1))
	wantStep(t, "the least step", next, halves, less, ok, weight(-0x1p-49, 0x1p100), 0)
	next, halves, less, ok = impl.StepDown(weight(0, 1), nil, math.MaxFloat32)
	wantStep(t, "the greatest step", next, halves, less, ok, weight(-math.MaxFloat32, 1), 0)
	for i, h := range []heldBody{{mixedBody(), nil}, {mixedBody(), []int64{1, 4}}, {bar(3, 1), []int64{0}}, {impl.Body{}, nil}} {
		for _, step := range badSteps() {
			next, halves, less, ok := impl.StepDown(h.b, h.held, step)
			wantNone(t, told("body", i, step), next, ok)
			want(t, told("halves", i, step), told(halves, less), told(0, false))
			for _, rounds := range []int64{0, 1, 40} {
				next, energies, ok := impl.RunDown(h.b, h.held, step, rounds)
				wantNone(t, told("body of a run", i, step), next, ok)
				wantNone(t, told("energies", i, step), energies, ok)
				next, count, ok := impl.TurnDown(h.b, h.held, step, rounds)
				wantNone(t, told("turned body", i, step), next, ok)
				wantNone(t, told("turned steps", i, step), count, ok)
			}
		}
	}
}

func TestStepsAreThoseOfTheText(t *testing.T) {
	often := make([]int, 21)
	stays := 0
	for i, h := range append(validHeldBodies(), anyHeldBodies()...) {
		for _, step := range []float32{0.03, 1, 70, 1e5} {
			expected, times, helps := slowStep(h.b, slowFree(h), step)
			next, halves, less, ok := impl.StepDown(h.b, h.held, step)
			what := told("body", i, "step", step)
			wantOk(t, what, next, ok, expected)
			want(t, what+"halves", told(halves, less), told(times, helps))
			if helps {
				often[times]++
			} else {
				stays++
			}
		}
	}
	for halves, n := range often {
		if n == 0 && halves != 20 {
			t.Errorf("no step is halved %d times", halves)
		}
	}
	if stays == 0 {
		t.Errorf("all steps help")
	}
}

func TestStepsOfInvalidBodiesFail(t *testing.T) {
	for i, h := range invalidHeldBodies() {
		next, halves, less, ok := impl.StepDown(h.b, h.held, 1)
		wantNone(t, named("step of an invalid body", i), next, ok)
		want(t, named("halves of an invalid body", i), told(halves, less), told(0, false))
		for _, rounds := range []int64{0, 1, 40} {
			next, energies, ok := impl.RunDown(h.b, h.held, 1, rounds)
			wantNone(t, named("run of an invalid body", i), next, ok)
			wantNone(t, named("energies of an invalid body", i), energies, ok)
			next, count, ok := impl.TurnDown(h.b, h.held, 1, rounds)
			wantNone(t, named("turned invalid body", i), next, ok)
			wantNone(t, named("turned steps of an invalid body", i), count, ok)
		}
	}
}
