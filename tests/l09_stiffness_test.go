package tests

import (
	"math"
	"slices"
	"testing"

	"loop.example/g01222/impl"
)

// TestStiffTimesToTheLastBit has values that were computed outside of the program.
func TestStiffTimesToTheLastBit(t *testing.T) {
	for _, c := range []struct {
		held  []int64
		step  float32
		stiff uint32 // along the list
		bits  []uint32
	}{
		{nil, 0.25, 0x4005f860, []uint32{0xbfdee884, 0xc09fa919, 0x41154df2, 0x4048bd7d, 0x4011e4b9, 0xc0903166, 0xc00db9db, 0x4006b1a4, 0x3f0a4758,
			0x3faf137b, 0xbeff68be, 0xbf743b80, 0x3f2780f0, 0xbfec5e5e, 0x3f88e1cc, 0xbf99f2ba, 0x403cd820, 0xc0af646a}},
		{nil, 1e-3, 0x4000e0ad, []uint32{0xbff2d40f, 0xc096d547, 0x4110a069, 0x40447574, 0x3ffae677, 0xc089042b, 0xc000a857, 0x4002fc39, 0x3f1c017f,
			0x3fb30bef, 0xbf051d25, 0xbf66d5bf, 0x3f2611ab, 0xbfda6c03, 0x3f7debe7, 0xbf9ada93, 0x403bb6af, 0xc0ae9f1f}},
		{nil, 40, 0x404854aa, []uint32{0xc05e6c05, 0xc0f843f3, 0x412e7d4f, 0x40a4e315, 0x409d1590, 0xc0a6ce80, 0xc0a1620f, 0x403767ae, 0x3fd0f8fa,
			0x403aae15, 0x3eb9c933, 0xbfb9acad, 0x3f1b748e, 0xc06dbad7, 0x3fb8b777, 0xbe221400, 0x405576ca, 0xc0ea2d0d}},
		{[]int64{1, 4}, 0.25, 0x40509647, []uint32{0x4006ec8e, 0xc06452dc, 0x41020a68, 0, 0, 0, 0xbfb4be04, 0x3eb2d668, 0xbe242340,
			0xbefa7810, 0xbe35a05c, 0xbf0e4160, 0, 0, 0, 0xbf7534bd, 0x401a66f8, 0xc0afb51b}},
		{[]int64{1, 4}, 1e-3, 0x404db438, []uint32{0x4002bacb, 0xc061c8c7, 0x41009403, 0, 0, 0, 0xbfaa9ce1, 0x3ea4a46f, 0xbe0f303f,
			0xbeeed49f, 0xbe4faff7, 0xbf0145bf, 0, 0, 0, 0xbf78b9d3, 0x4019b983, 0xc0af2ac5}},
		{[]int64{1, 4}, 40, 0x408dcaaf, []uint32{0x3fafa2f5, 0xc0a4a4ba, 0x41103098, 0, 0, 0, 0xc04d00a8, 0x3f9c9fca, 0x4009b377,
			0x3f4a7191, 0x3b20601a, 0xbf677ced, 0, 0, 0, 0x3e9358cf, 0x4025c245, 0xc0e799b8}},
		{[]int64{0, 2, 3, 5}, 0.25, 0x3f4a9fc1, []uint32{0, 0, 0, 0x4046baa3, 0x3f1611f8, 0xbfcd54d0, 0, 0, 0,
			0, 0, 0, 0xbe69acf0, 0xbfaa297c, 0x3e64c870, 0, 0, 0}},
	} {
		s := mixedSway(c.held...)
		list, ok := s.times(c.step)
		wantOk(t, told("stiffness with", c.held, c.step), list, ok, vectorsOfBits(c.bits...))
		stiff, ok := s.rayleigh(c.step)
		wantSum(t, told("stiffness along a list with", c.held, c.step), stiff, ok, num(c.stiff))
	}
}

// oddSteps are steps of all sizes. Twice the last one is infinite, and 1 divided by twice the first one as well.
func oddSteps() []float32 {
	return []float32{num(1), 1e-40, 0x1p-126, 1e-20, 1e-3, 0.25, 1, 300, 1e20, 0x1p127, math.MaxFloat32}
}

func TestStiffnessIsThatOfTheText(t *testing.T) {
	steps := oddSteps()
	for i, s := range allSways() {
		for _, step := range []float32{0.125, steps[i%len(steps)]} {
			what := told("body", i, "step", step)
			list, ok := s.times(step)
			wantOk(t, what, list, ok, slowTimes(s, step))
			stiff, ok := s.rayleigh(step)
			expected, exists := slowRayleigh(s, step)
			wantSumIf(t, exists, what+"along a list", stiff, ok, expected)
		}
	}
}

// wantBarTimes asks for what the stiffness makes of a vector at the end of a bar.
func wantBarTimes(t *testing.T, what string, b impl.Body, v impl.Vector, step float32, expected impl.Vector) {
	t.Helper()
	list, ok := barSway(b, v).times(step)
	wantOk(t, told(what, v, step), list, ok, []impl.Vector{{}, expected})
}

// TestStiffnessOfABar takes springs whose lengths become 2 and 4, or that want none, so that their stiffness is told exactly.
func TestStiffnessOfABar(t *testing.T) {
	for _, stiff := range []float32{1, 2, 0.375, -3, 1024} {
		for _, x := range []float32{1, 0.5, 2, 8, 0.0078125} {
			for _, long := range []float32{0, 1, 3, 7} {
				b := bar(3, long)
				b.Springs[0].Stiff = stiff
				what := told("a bar with", stiff, long)
				wantBarTimes(t, what, b, vec(x, 0, 0), 1/x, vec(stiff*x, 0, 0))
				wantBarTimes(t, what, b, vec(-x, 0, 0), 1/x, vec(-stiff*x, 0, 0))
			}
			b := bar(3, 0)
			b.Springs[0].Stiff = stiff
			for _, step := range []float32{2, 1, 0.25, 0.03125} {
				wantBarTimes(t, told("a bar that wants no length", stiff), b, vec(x, 0, 0), step, vec(stiff*x, 0, 0))
				wantBarTimes(t, "across a bar that wants no length", bar(3, 0), vec(0, x, 0), step, vec(0, x, 0))
			}
		}
	}
	// Weights have no stiffness.
	b := bar(3, 1)
	b.Weights, b.Fall = []float32{2, -3}, vec(1, 2, 0.5)
	wantBarTimes(t, "a bar with weights", b, vec(1, 0, 0), 1, vec(1, 0, 0))
	b.Springs = nil
	wantBarTimes(t, "weights", b, vec(1, 2, 3), 0.25, vec(0, 0, 0))
	// The end of this spring goes from 4, 0, 0 to 4, 3, 0 and 4, -3, 0, where it pulls with a fifth for each unit.
	wantBarTimes(t, "across a bar", bar(4, 4), vec(0, 3, 0), 1, vec(0, 0.6, 0))
	wantBarTimes(t, "across a bar", bar(4, 4), vec(0, 6, 0), 0.5, vec(0, 1.2, 0))
	wantBarTimes(t, "across a bar", bar(4, 5), vec(0, 3, 0), 1, vec(0, 0, 0))
	wantBarTimes(t, "across a bar that is pressed", bar(4, 10), vec(0, 0, 3), 1, vec(0, 0, -3))
}

// TestStiffnessOfHinges takes folds, whose stiffness is the same for all steps, and exactly the same in both directions.
func TestStiffnessOfHinges(t *testing.T) {
	b := bodyOf(meshOf(4, tri(0, 1, 2), tri(1, 0, 3)))
	b.Bend = 0.5
	v := []impl.Vector{vec(1, 2, 0), vec(0, -1, 3), vec(2, 0, 1), vec(1, 1, 1)}
	// The fold becomes 2, 0, -1 more for each unit of v.
	expected := []impl.Vector{vec(-1, 0, 0.5), vec(-1, 0, 0.5), vec(1, 0, -0.5), vec(1, 0, -0.5)}
	for _, step := range []float32{0.25, 1, 64} {
		list, ok := impl.StiffTimes(b, nil, v, step)
		wantOk(t, told("stiffness of a fold with", step), list, ok, expected)
		stiff, ok := impl.RayleighOf(b, nil, v, step)
		wantSum(t, told("stiffness along a list with", step), stiff, ok, num(0x3dde9bd3)) // 2.5 / 23
	}
}

// stiffNet is a sheet with springs, a film and folds, none of which is small.
func (d *dice) stiffNet() impl.Body {
	grid, _ := impl.GridMesh(3, 2, 1)
	b, _ := impl.SpringEdges(grid, 2)
	for i := range b.Mesh.Places {
		b.Mesh.Places[i] = impl.AddVectors(b.Mesh.Places[i], impl.ScaleVector(d.vector(), 1.0/32))
		b.Weights[i] = d.number()
	}
	for i := range b.Springs {
		b.Springs[i].Stiff += d.number() / 4
	}
	b.Film, b.Bend, b.Fall = 0.25, 0.5, d.vector()
	return b
}

// nets are such sheets with some of their places held.
func nets() []sway {
	d := dice(43)
	var list []sway
	for i := range 60 {
		b := d.stiffNet()
		var held []int64
		if i%4 > 0 {
			held = d.some(b, 1+i%4)
		}
		list = append(list, d.sway(heldBody{b, held}, d.number))
	}
	return list
}

// mixedNets are those, and bodies of which some springs push.
func mixedNets() []sway {
	return append(nets(), mixedSway(), mixedSway(1, 4), mixedSway(0), mixedSway(0, 2, 3, 5))
}

func longAll(v []impl.Vector) float64 { return math.Sqrt(slowInner(v, v)) }

func TestStiffnessIsTheSameInBothDirections(t *testing.T) {
	for i, s := range mixedNets() {
		v, w := slowMadeFree(s.held, s.v), slowMadeFree(s.held, s.first)
		a, ok := s.times(1.0 / 256)
		b, also := s.with(s.first).times(1.0 / 256)
		if !ok || !also {
			t.Fatalf("net %d fails", i)
		}
		there, back := slowInner(w, a), slowInner(v, b)
		if size := longAll(w)*longAll(a) + longAll(v)*longAll(b); !(math.Abs(there-back) <= 0.002*size) {
			t.Errorf("net %d: %v there and %v back, of %v", i, there, back, size)
		}
		if i%4 == 0 && longAll(a) < 1 {
			t.Errorf("net %d is not stiff", i)
		}
	}
}

// TestEnergiesBendAsTheyAreStiff compares with the energy, whose second difference along a list is what the stiffness tells.
func TestEnergiesBendAsTheyAreStiff(t *testing.T) {
	for i, s := range mixedNets() {
		v := slowMadeFree(s.held, s.v)
		list, _ := s.times(1.0 / 256)
		energies, ok := s.with(v).energies(1.0/64, 1)
		if !ok || len(energies) != 3 {
			t.Fatalf("net %d: %d energies, %v", i, len(energies), ok)
		}
		bend := (float64(energies[0]) - 2*float64(energies[1]) + float64(energies[2])) * 64 * 64
		if along := slowInner(v, list); !(math.Abs(bend-along) <= 0.01*longAll(v)*longAll(list)+0.1) {
			t.Errorf("net %d: energies bend by %v, and forces by %v", i, bend, along)
		}
	}
}

// TestStiffnessOfHeldPlaces changes what lists have at held places, which must not matter.
func TestStiffnessOfHeldPlaces(t *testing.T) {
	for i, s := range append(mixedNets(), usualSways()[:300]...) {
		list, ok := s.times(0.125)
		stiff, has := s.rayleigh(0.125)
		for _, place := range s.held {
			wantVector(t, told("body", i, "held place", place), list[place], vec(0, 0, 0))
		}
		for _, x := range nums(0, minusZ, 1, 0xc2f6e979, 0x7f7fffff, inf, negInf, nan) {
			other := s.with(slices.Clone(s.v))
			for _, place := range s.held {
				other.v[place] = vec(x, -x, x)
			}
			again, also := other.times(0.125)
			want(t, told("body", i, "with", x, "at held places"), told(again, also), told(list, ok))
			want(t, told("body", i, "along a list with", x, "at held places"), told(other.rayleigh(0.125)), told(stiff, has))
		}
	}
}

func TestStiffnessWhereNothingIsFree(t *testing.T) {
	for _, s := range []sway{mixedSway(0, 1, 2, 3, 4, 5), barSway(bar(3, 1), vec(1, 2, 3)).holding(0, 1)} {
		for _, step := range oddSteps() {
			list, ok := s.times(step)
			wantOk(t, told("held everywhere, step", step), list, ok, make([]impl.Vector, len(s.v)))
		}
	}
	for _, step := range oddSteps() {
		list, ok := sway{}.times(step)
		wantOk(t, told("no places, step", step), list, ok, nil)
		stiff, ok := sway{}.rayleigh(step)
		wantNoSum(t, told("along no places, step", step), stiff, ok)
	}
}

// TestStiffnessWithStepsOfAllSizes takes a bar whose end is at 0, so that no step is lost there.
func TestStiffnessWithStepsOfAllSizes(t *testing.T) {
	b := bodyOf(impl.Mesh{Places: []impl.Vector{vec(-1, 0, 0), {}}}, spring(0, 1, 1, 2))
	s := barSway(b, vec(1, 0, 0))
	for _, c := range []struct{ step, x float32 }{
		{1e-20, 0}, {0x1p-126, 0}, {2e-39, 0}, // the step is lost beside the other end
		{1e-40, num(nan)}, {num(1), num(nan)}, // 1 divided by twice the step is infinite, and nothing times this a not-a-number
		{0x1p-23, 2}, {0.5, 2}, {2, 1}, {0x1p63, 2}, {0x1p64, num(nan)}, {math.MaxFloat32, num(nan)},
	} {
		list, ok := s.times(c.step)
		yz := float32(0)
		if c.x != c.x {
			yz = c.x
		}
		wantOk(t, told("stiffness with the step", c.step), list, ok, []impl.Vector{{}, vec(c.x, yz, yz)})
	}
}

func TestStiffnessNeedsSteps(t *testing.T) {
	for i, s := range []sway{mixedSway(), mixedSway(1, 4), barSway(bar(3, 1), vec(1, 0, 0)), {}} {
		for _, step := range badSteps() {
			list, ok := s.times(step)
			wantNone(t, told("body", i, "with the step", step), list, ok)
			stiff, ok := s.rayleigh(step)
			wantNoSum(t, told("along a list of body", i, "with the step", step), stiff, ok)
		}
	}
}

func TestStiffnessNeedsAVectorForEachPlace(t *testing.T) {
	for i, s := range misfits() {
		list, ok := s.times(0.125)
		wantNone(t, named("stiffness of misfit", i), list, ok)
		stiff, ok := s.rayleigh(0.125)
		wantNoSum(t, named("stiffness along misfit", i), stiff, ok)
	}
}

func TestStiffnessAlongAList(t *testing.T) {
	soft := bar(4, 0)
	soft.Springs = append(soft.Springs, spring(0, 1, 4, -0.75))
	for _, c := range []struct {
		s     sway
		stiff float32
	}{
		{barSway(bar(3, 1), vec(1, 0, 0)), 1}, {barSway(bar(3, 1), vec(-2, 0, 0)), 1}, {barSway(bar(3, 1), vec(0.25, 0, 0)), 1},
		{barSway(soft, vec(1, 0, 0)), 0.25}, {barSway(bodyOf(bar(3, 1).Mesh), vec(1, 2, 3)), 0},
		// A square that is subnormal, and one that is infinite.
		{barSway(bodyOf(bar(3, 1).Mesh), vec(1e-22, 0, 0)), 0}, {barSway(bar(0, 0), vec(1e20, 0, 0)), num(nan)},
		{barSway(bodyOf(bar(3, 1).Mesh), vec(1e20, 0, 0)), 0},
	} {
		stiff, ok := c.s.rayleigh(0.25)
		wantSum(t, told("stiffness along", c.s.v), stiff, ok, c.stiff)
	}
	z := num(minusZ)
	for _, v := range []impl.Vector{{}, vec(z, 0, z), vec(z, z, z), vec(1e-23, 1e-23, 0), vec(num(1), 0, 0), vec(num(nan), 0, 0), vec(1, num(nan), 2)} {
		stiff, ok := barSway(bar(3, 1), v).rayleigh(0.25)
		wantNoSum(t, told("stiffness along", v), stiff, ok)
	}
	// These are zero when they are made free.
	for _, s := range []sway{barSway(bar(3, 1), vec(1, 2, 3)).holding(0, 1), barSway(bar(3, 1), vec(1, 2, 3)).holding(1), mixedSway(0, 1, 2, 3, 4, 5)} {
		stiff, ok := s.rayleigh(0.25)
		wantNoSum(t, told("stiffness along", s.v, s.held), stiff, ok)
	}
}
