package tests

import (
	"testing"

	"loop.example/g01222/impl"
)

// wantRun asks for a run down with all of its energies.
func wantRun(t *testing.T, what string, h heldBody, step float32, rounds int64, expected impl.Body, energies []float32) {
	t.Helper()
	b, list, ok := impl.RunDown(h.b, h.held, step, rounds)
	wantOk(t, what+", body", b, ok, expected)
	want(t, what+", energies", list, energies)
}

func TestRunDownToTheLastBit(t *testing.T) {
	b := mixedBody()
	expected := changed(b, func(b *impl.Body) {
		copy(b.Mesh.Places, vectorsOfBits(
			0x3e1aaf00, 0x3fb7ad7c, 0xc0d1c712, 0x3fa66666, 0xbecccccd, 0x3f000000, 0x3f4e1f16, 0x3e3c9540, 0xc14fc79b,
			0xbd4ab274, 0x3e525878, 0xc227c138, 0x400ccccd, 0x3fb33333, 0x3fd9999a, 0x3fd6e56d, 0xbf930886, 0xc0e6def6))
	})
	energies := nums(0x4166a75b, 0xc2abf92a, 0xc3946ae9, 0xc3bb46a2, 0xc4031d1a, 0xc40e96d2, 0xc455c56c)
	wantRun(t, "six steps", heldBody{b, []int64{1, 4}}, 3, 6, expected, energies)
}

// TestRunDownBeginsEachTimeWithItsStep takes a spring whose length errs by half as much, with the other sign, behind each step of 1.5.
func TestRunDownBeginsEachTimeWithItsStep(t *testing.T) {
	h := heldBody{bar(101, 100), []int64{0}}
	lengths := []float32{101, 99.5, 100.25, 99.875, 100.0625}
	energies := []float32{0.5, 0.125, 0.03125, 0.0078125, 0.001953125}
	for rounds, long := range lengths {
		for _, step := range []float32{1.5, 3, 6, 96} {
			wantRun(t, told(rounds, "rounds of", step), h, step, int64(rounds), bar(long, 100), energies[:rounds+1])
		}
	}
	wantRun(t, "the longest step", h, 1.5*0x1p20, 4, bar(100.0625, 100), energies)
	wantRun(t, "too long a step", h, 1.5*0x1p21, 4, h.b, energies[:1])
}

func TestRunDownEndsAtRest(t *testing.T) {
	h := heldBody{bar(101, 100), []int64{0}}
	for _, rounds := range []int64{1, 2, 3, 39, 40} {
		wantRun(t, told("to rest in", rounds), h, 1, rounds, bar(100, 100), []float32{0.5, 0})
		wantRun(t, told("at rest for", rounds), heldBody{bar(100, 100), h.held}, 1, rounds, bar(100, 100), []float32{0})
	}
	wantRun(t, "no rounds", h, 1, 0, h.b, []float32{0.5})
	wantRun(t, "no rounds from a not-a-number", heldBody{weight(num(nan), 1), nil}, 1, 0, weight(num(nan), 1), nums(nan))
	wantRun(t, "a body without places", heldBody{}, 1, 40, impl.Body{}, []float32{0})
}

func TestRoundsHaveALimit(t *testing.T) {
	// A weight falls by 1 in each of the steps.
	for _, rounds := range []int64{0, 1, 39, 40} {
		var energies []float32
		for i := range rounds + 1 {
			energies = append(energies, -float32(i))
		}
		energies[0] = 0
		end := weight(-float32(rounds), 1)
		if rounds == 0 {
			end = weight(0, 1)
		}
		wantRun(t, told("rounds", rounds), heldBody{weight(0, 1), nil}, 1, rounds, end, energies)
	}
	for i, h := range []heldBody{{weight(0, 1), nil}, {bar(1, 1), []int64{0}}, {impl.Body{}, nil}} {
		for _, rounds := range badRounds() {
			b, energies, ok := impl.RunDown(h.b, h.held, 1, rounds)
			wantNone(t, told("run of", i, rounds), b, ok)
			wantNone(t, told("energies of", i, rounds), energies, ok)
			b, count, ok := impl.TurnDown(h.b, h.held, 1, rounds)
			wantNone(t, told("turned", i, rounds), b, ok)
			wantNone(t, told("turned steps of", i, rounds), count, ok)
		}
	}
}

func TestRunsAreThoseOfTheText(t *testing.T) {
	for i, h := range append(validHeldBodies(), anyHeldBodies()...) {
		for _, step := range []float32{0.05, 2} {
			rounds := int64(1 + i%7)
			expected, energies := slowRun(h, step, rounds)
			wantRun(t, told("body", i, "step", step), h, step, rounds, expected, energies)
		}
	}
}

// TestRunsAreStepsOneAfterAnother compares with StepDown, for as many rounds as there can be.
func TestRunsAreStepsOneAfterAnother(t *testing.T) {
	for i, h := range anyHeldBodies() {
		next, energies := h.b, []float32{first(impl.EnergyOf(h.b))}
		for range 40 {
			b, _, less, _ := impl.StepDown(next, h.held, 0.3)
			if !less {
				break
			}
			next = b
			energies = append(energies, first(impl.EnergyOf(b)))
		}
		wantRun(t, named("body", i), h, 0.3, 40, next, energies)
	}
}

// TestEnergiesNeverRise looks at all energies of runs, whatever the step is.
func TestEnergiesNeverRise(t *testing.T) {
	for i, h := range append(validHeldBodies(), anyHeldBodies()...) {
		for _, step := range []float32{1e-6, 0.1, 4, 1e9} {
			what := told("body", i, "step", step)
			b, energies, ok := impl.RunDown(h.b, h.held, step, 12)
			if !ok || len(energies) == 0 {
				t.Fatalf("%s: %d energies, %v", what, len(energies), ok)
			}
			wantNumber(t, what+"before", energies[0], slowEnergy(h.b))
			for j, energy := range energies[1:] {
				if !(energy < energies[j]) {
					t.Errorf("%s rises from %v to %v", what, energies[j], energy)
				}
			}
			wantNumber(t, what+"behind", energies[len(energies)-1], slowEnergy(b))
			turned, count, ok := impl.TurnDown(h.b, h.held, step, 12)
			if before, behind := slowEnergy(h.b), slowEnergy(turned); !ok || count > 0 && !(behind < before) || count == 0 && !same(behind, before) {
				t.Errorf("%s: %d turned steps from %v to %v, %v", what, count, before, behind, ok)
			}
			next, _, less, ok := impl.StepDown(h.b, h.held, step)
			if before, behind := slowEnergy(h.b), slowEnergy(next); !ok || less != (behind < before) || !less && !same(behind, before) {
				t.Errorf("%s: from %v to %v, %v, %v", what, before, behind, less, ok)
			}
		}
	}
}

// wantHeld asks for held places where they were. Steps add +0 to them, so a -0 may become +0, as it does in MovePlaces.
func wantHeld(t *testing.T, what string, h heldBody, got impl.Body) {
	t.Helper()
	for _, place := range h.held {
		was, is := h.b.Mesh.Places[place], got.Mesh.Places[place]
		if was != is {
			wantVector(t, what, is, was)
		}
	}
	want(t, what+", all but the places", changed(got, func(b *impl.Body) { b.Mesh.Places = h.b.Mesh.Places }), h.b)
}

func TestHeldPlacesStay(t *testing.T) {
	for i, h := range append(validHeldBodies(), anyHeldBodies()...) {
		for _, step := range []float32{0.01, 1, 1e4} {
			what := told("body", i, "step", step)
			next, _, _, _ := impl.StepDown(h.b, h.held, step)
			wantHeld(t, what+"down", h, next)
			wantHeld(t, what+"run", h, first2(impl.RunDown(h.b, h.held, step, 9)))
			wantHeld(t, what+"turned", h, first2(impl.TurnDown(h.b, h.held, step, 9)))
		}
	}
}

// first2 returns the first of three results.
func first2[A, B, C any](a A, _ B, _ C) A { return a }

func TestHeldPlacesOfAGridStay(t *testing.T) {
	grid, _ := impl.GridMesh(4, 4, 0.37)
	b, _ := impl.SpringEdges(grid, 3)
	for i := range b.Weights {
		b.Weights[i] = 0.1
	}
	b.Film, b.Bend, b.Fall = 0.2, 0.05, vec(0.3, -0.1, -9.8)
	h := heldBody{b, []int64{0, 4, 20, 24}}
	runs := map[string]impl.Body{
		"run":    first2(impl.RunDown(b, h.held, 0.1, 40)),
		"turned": first2(impl.TurnDown(b, h.held, 0.1, 40)),
	}
	for what, low := range runs {
		for place, was := range b.Mesh.Places {
			is := low.Mesh.Places[place]
			if holds(h.held, int64(place)) {
				wantVector(t, told(what, "held place", place), is, was)
			} else if impl.SameVector(is, was) || is.Z >= was.Z {
				t.Errorf("%s: the free place %d does not fall: %v, %v", what, place, was, is)
			}
		}
	}
	before := first(impl.RestOf(b, h.held))
	for what, low := range runs {
		if rest := first(impl.RestOf(low, h.held)); !(rest < before/2) {
			t.Errorf("%s: free forces of %v are still %v", what, before, rest)
		}
	}
}

// TestStepsOfHeldZeros tells what MovePlaces makes of them.
func TestStepsOfHeldZeros(t *testing.T) {
	z := num(minusZ)
	b := bar(3, 1)
	b.Mesh.Places[0] = vec(z, 0, z)
	moved, _ := impl.MovePlaces(b, []impl.Vector{{}, vec(-2, 0, 0)}, 1)
	next, halves, less, ok := impl.StepDown(b, []int64{0}, 1)
	wantStep(t, "a held -0", next, halves, less, ok, moved, 0)
	want(t, "places behind it", next.Mesh.Places, bar(1, 1).Mesh.Places)
}
