package tests

import (
	"math"
	"testing"

	"loop.example/g01222/impl"
)

func wantEnergies(t *testing.T, what string, s sway, step float32, count int64, expected []float32) {
	t.Helper()
	energies, ok := s.energies(step, count)
	wantOk(t, told(what, step, count), energies, ok, expected)
}

// TestEnergiesAlongToTheLastBit has values that were computed outside of the program.
func TestEnergiesAlongToTheLastBit(t *testing.T) {
	all := nums(0x421ae5c3, 0x41c896e6, 0x418ae636, 0x4166a75b, 0x4177a15e, 0x41a7fb7a, 0x41fe2d2d)
	for count := range int64(4) {
		wantEnergies(t, "the mixed body", mixedSway(), 0.3, count, all[3-count:4+count])
	}
	// Held places do not matter, as there are none.
	wantEnergies(t, "the mixed body", mixedSway(1, 4), 0.3, 3, all)
}

// TestEnergiesAlongABar takes a spring with the stiffness 1 that wants no length, and a weight.
func TestEnergiesAlongABar(t *testing.T) {
	s := barSway(bar(3, 0), vec(1, 0, 0))
	wantEnergies(t, "a bar", s, 1, 0, []float32{4.5})
	wantEnergies(t, "a bar", s, 1, 1, []float32{2, 4.5, 8})
	wantEnergies(t, "a bar", s, 2, 2, []float32{0.5, 0.5, 4.5, 12.5, 24.5})
	s = sway{b: weight(0, 1), v: []impl.Vector{vec(5, 0, -2)}}
	for count := range int64(41) {
		var expected []float32
		for k := -count; k <= count; k++ {
			expected = append(expected, float32(-k))
		}
		wantEnergies(t, "a weight", s, 0.5, count, expected)
	}
	wantEnergies(t, "no places", sway{}, 1, 2, make([]float32, 5))
	wantEnergies(t, "no energies", sway{b: bodyOf(meshOf(64)), v: make([]impl.Vector, 64)}, 1, 40, make([]float32, 81))
}

func TestEnergiesAlongOfAllSizes(t *testing.T) {
	s := sway{b: weight(0, 1), v: []impl.Vector{vec(0, 0, 1)}}
	up, down := num(inf), num(negInf)
	wantEnergies(t, "the least step", s, num(1), 2, nums(0x80000002, 0x80000001, 0, 1, 2))
	// Twice this step is infinite, even where a quarter of it is meant.
	wide := sway{b: weight(0, 1), v: []impl.Vector{vec(0.25, 0.25, 0.25)}}
	wide.b.Fall = vec(-1, -1, -1)
	wantEnergies(t, "a step that is infinite twice", wide, 0x1p127, 2, []float32{down, -0x1.8p126, 0, 0x1.8p126, up})
	s.v = []impl.Vector{vec(0, 0, num(inf))}
	wantEnergies(t, "an infinite vector", s, 1, 1, []float32{down, num(nan), up})
	s.v = []impl.Vector{vec(num(nan), 0, 1)}
	wantEnergies(t, "a not-a-number", s, 1, 1, nums(nan, nan, nan))
	for _, x := range []float32{0, num(minusZ), 1, 1e-30} {
		s.v = []impl.Vector{vec(0, x, 0)}
		wantEnergies(t, told("across with", x), s, 1, 1, []float32{0, 0, 0})
	}
}

func TestEnergiesAlongAreThoseOfTheText(t *testing.T) {
	steps := oddSteps()
	for i, s := range allSways() {
		for _, step := range []float32{0.1, steps[i%len(steps)]} {
			count := int64(i % 4)
			wantEnergies(t, named("body", i), s, step, count, slowEnergiesAlong(s, step, count))
		}
	}
	for i, s := range nets() {
		wantEnergies(t, named("net", i), s, 0.01, 40, slowEnergiesAlong(s, 0.01, 40))
	}
}

func TestEnergiesAlongHaveLimits(t *testing.T) {
	for i, s := range []sway{mixedSway(), barSway(bar(3, 1), vec(1, 0, 0)), {}} {
		for _, step := range badSteps() {
			energies, ok := s.energies(step, 1)
			wantNone(t, told("energies of body", i, "step", step), energies, ok)
			b, ok := s.pushed(1, step)
			wantNone(t, told("pushed body", i, "step", step), b, ok)
		}
		for _, count := range badRounds() {
			energies, ok := s.energies(1, count)
			wantNone(t, told("energies of body", i, "count", count), energies, ok)
		}
	}
	for i, s := range misfits() {
		energies, ok := s.energies(1, 1)
		wantNone(t, named("energies of misfit", i), energies, ok)
		b, ok := s.pushed(1, 1)
		wantNone(t, named("pushed misfit", i), b, ok)
	}
}

// TestSwingOf has values that were computed outside of the program.
func TestSwingOf(t *testing.T) {
	for _, c := range []struct {
		rayleigh, mass float32
		bits           uint32
	}{
		{8, 2, 0x40000000}, {0.3, 0.7, 0x3f279762}, {5, 3, 0x3fa53f4e}, {0, 1, 0}, {num(minusZ), 1, minusZ}, {num(minusZ), 1e38, minusZ},
		{num(1), 1e38, 0}, {num(1), 1, 0x1a3504f3}, {num(1), num(1), 0x3f800000}, {2, num(1), inf}, {3e38, 1e-38, inf}, {7, 1e-38, inf},
		{1e-38, 7, 0x1f327d1c}, {2, math.MaxFloat32, 0x1fb504f3}, {math.MaxFloat32, 1, 0x5f7fffff}, {math.MaxFloat32, math.MaxFloat32, 0x3f800000},
		{num(inf), 2, inf}, {num(inf), math.MaxFloat32, inf}, {num(inf), num(1), inf},
	} {
		swing, ok := impl.SwingOf(c.rayleigh, c.mass)
		wantSum(t, told("swing of", c.rayleigh, c.mass), swing, ok, num(c.bits))
	}
}

func TestSwingOfTakesNumbersAndMasses(t *testing.T) {
	list := append(oddNumbers(), 0.3, 1e-38, 1e38, 7)
	for _, rayleigh := range list {
		for _, mass := range list {
			swing, ok := impl.SwingOf(rayleigh, mass)
			expected := rounded(math.Sqrt(rounded(float64(rayleigh) / float64(mass))))
			wantSumIf(t, rayleigh >= 0 && isLength(mass), told("swing of", rayleigh, mass), swing, ok, expected)
		}
		for _, mass := range badSteps() {
			swing, ok := impl.SwingOf(rayleigh, mass)
			wantNoSum(t, told("swing of", rayleigh, mass), swing, ok)
		}
	}
	for _, rayleigh := range nums(0x80000001, 0x80800000, 0xbf800000, 0xff7fffff, negInf, nan, 0xffc00001) {
		swing, ok := impl.SwingOf(rayleigh, 1)
		wantNoSum(t, told("swing of", rayleigh), swing, ok)
	}
}

// TestModesSwing lets a bar swing, which takes as long as the mode tells.
func TestModesSwing(t *testing.T) {
	b := bar(3, 3)
	b.Springs[0].Stiff = 4
	stiff, _ := barSway(b, vec(1, 0, 0)).rayleigh(1)
	swing, ok := impl.SwingOf(stiff, 0.25)
	wantSum(t, "swing of a bar", swing, ok, 4)
	b.Mesh.Places[1].X = 3.5
	m, _ := impl.StillMotion(b)
	tick := float32(2*math.Pi) / swing / 40
	m, _, ok = impl.RunMotion(m, []int64{0}, 0.25, 1, tick, 20)
	if x := m.Body.Mesh.Places[1].X; !ok || math.Abs(float64(x-2.5)) > 0.02 {
		t.Errorf("half of a swing leads to %v, %v", x, ok)
	}
	m, _, ok = impl.RunMotion(m, []int64{0}, 0.25, 1, tick, 20)
	if x := m.Body.Mesh.Places[1].X; !ok || math.Abs(float64(x-3.5)) > 0.02 {
		t.Errorf("a swing leads to %v, %v", x, ok)
	}
}

func wantPushed(t *testing.T, what string, s sway, size, step float32, places ...impl.Vector) {
	t.Helper()
	b, ok := s.pushed(size, step)
	wantBody(t, told(what, size, step), b, ok, movedTo(s.b, places...))
}

// TestPushedBodyToTheLastBit has values that were computed outside of the program.
func TestPushedBodyToTheLastBit(t *testing.T) {
	s := mixedSway()
	far := vectorsOfBits(0x3e8f5c29, 0xbe6147af, 0x3f75c290, 0x402b851e, 0xbe23d70a, 0x3e0f5c28, 0xbca3d720, 0x401c28f6, 0xbf0a3d71,
		0xbf4ccccd, 0x3f8ccccd, 0x3f199999, 0x40466667, 0xbdccccd0, 0x3feccccd, 0x3f0a3d71, 0xbf570a3e, 0xbfd1eb86)
	near := vectorsOfBits(0x3dcea4a9, 0x3e4aa64c, 0x3e9b4a24, 0x3fa7487f, 0xbecc2f84, 0x3eff1412, 0x3f324745, 0x3ff38bac, 0xbf1985f1,
		0xbf8c9ba6, 0x3f4d2f1b, 0x3f660418, 0x400d1687, 0x3fb23d70, 0x3fd9b22d, 0x3f1985f1, 0xbf995e9f, 0xbf4de00d)
	for _, sign := range []float32{1, -1} {
		wantPushed(t, "far", s, 2*sign, 0.3, far...)
		wantPushed(t, "near", s, 0.01*sign, 0.3, near...)
	}
}

// TestPushedBodyOfABar takes a bar that goes back to its length, wherever it is pushed to.
func TestPushedBodyOfABar(t *testing.T) {
	o, x := vec(0, 0, 0), vec(1, 0, 0)
	for _, size := range []float32{2, -2} {
		wantPushed(t, "a long bar", barSway(bar(3, 1), x), size, 0.5, o, vec(2, 0, 0))
		wantPushed(t, "a long bar", barSway(bar(3, 1), vec(-1, 0, 0)), size, 0.5, o, vec(2, 0, 0))
		wantPushed(t, "a short bar", barSway(bar(3, 7), x), size, 0.5, o, vec(4, 0, 0))
		wantPushed(t, "a bar that is held", barSway(bar(3, 1), x).holding(0, 1), size, 0.5, o, vec(2, 0, 0))
	}
	// Where both energies are equal, the sign of size tells.
	wantPushed(t, "aside", barSway(bar(3, 1), vec(0, 1, 0)), 2, 0.5, o, vec(3, 1, 0))
	wantPushed(t, "aside", barSway(bar(3, 1), vec(0, 1, 0)), -2, 0.5, o, vec(3, -1, 0))
	wantPushed(t, "nowhere", barSway(bar(3, 1), x), 0, 0.5, o, vec(3, 0, 0))
	wantPushed(t, "nowhere", barSway(bar(3, 1), x), num(minusZ), 0.5, o, vec(3, 0, 0))
	wantPushed(t, "no places", sway{}, 2, 0.5)
	// The size times the step is rounded, to +0, to a subnormal number, or to an infinity.
	far := bodyOf(impl.Mesh{Places: []impl.Vector{{}}})
	at := func(x float32) sway { return sway{b: far, v: []impl.Vector{vec(x, 0, 0)}} }
	wantPushed(t, "times a third", at(3), 1.0/3, 0.1, vec(float32(rounded(0.1)*rounded(1.0/3))*3, 0, 0))
	wantPushed(t, "by less than all numbers", at(math.MaxFloat32), 1e-30, 1e-30, vec(0, 0, 0))
	wantPushed(t, "by a subnormal number", at(0x1p100), 0x1p-100, 0x1p-40, vec(0x1p-40, 0, 0))
	wantPushed(t, "by an infinity", at(1e-30), 1e30, 1e30, vec(num(inf), num(nan), num(nan)))
	wantPushed(t, "by no number", at(1), num(nan), 1, vec(num(nan), num(nan), num(nan)))
}

// TestPushedBodyWithEnergiesThatAreNotNumbers takes a film over a triangle, which makes one of an area that is infinite on one side.
func TestPushedBodyWithEnergiesThatAreNotNumbers(t *testing.T) {
	b := bodyOf(impl.Mesh{Places: []impl.Vector{{}, vec(0x1p63, 0, 0), vec(0, 0x1p62, 0)}, Triangles: [][]int64{tri(0, 1, 2)}})
	v := []impl.Vector{{}, {}, vec(0, 0x1p62, 0)}
	o, x, y := b.Mesh.Places[0], b.Mesh.Places[1], vec(0, 0x1p63, 0)
	s := sway{b: b, v: v}
	for _, c := range []struct {
		film, ahead, back float32
	}{{0, num(nan), 0}, {1, num(inf), 0}, {-1, num(negInf), 0}, {num(nan), num(nan), num(nan)}, {num(inf), num(inf), num(nan)}} {
		s.b.Film = c.film
		energies, ok := s.energies(1, 1)
		wantOk(t, told("energies with", c.film), []float32{energies[2], energies[0]}, ok, []float32{c.ahead, c.back})
		if c.ahead > c.back {
			wantPushed(t, "a triangle", s, 1, 1, o, x, o)
		} else {
			wantPushed(t, "a triangle", s, 1, 1, o, x, y)
		}
		if c.back > c.ahead {
			wantPushed(t, "a triangle", s, -1, 1, o, x, y)
		} else {
			wantPushed(t, "a triangle", s, -1, 1, o, x, o)
		}
	}
}

func TestPushedBodyIsThatOfTheText(t *testing.T) {
	steps, sizes := oddSteps(), oddNumbers()
	turned := 0
	for i, s := range allSways() {
		for _, size := range []float32{2, -0.3, sizes[i%len(sizes)]} {
			for _, step := range []float32{0.1, steps[i%len(steps)]} {
				b, ok := s.pushed(size, step)
				expected := slowPushed(s, size, step)
				wantBody(t, told("pushed body", i, size, step), b, ok, expected)
				if told(expected.Mesh.Places) != told(slowMoved(s.b, s.v, rounded(float64(size)*float64(step))).Mesh.Places) {
					turned++
				}
			}
		}
	}
	if turned < 100 {
		t.Errorf("just %d are turned", turned)
	}
}

// TestPushesMakeEnergiesLess pushes along soft modes that buckle.
func TestPushesMakeEnergiesLess(t *testing.T) {
	pushed := 0
	for i, s := range append(mixedNets(), barSway(bar(1, 2), vec(1, 0.01, 0))) {
		soft, stiff, ok := s.soft(1.0/64, 30, 40)
		buckles, also := s.buckles(1.0/64, 30, 40)
		if ok != also || buckles != (stiff < 0) {
			t.Errorf("net %d has the stiffness %v, %v, but buckles: %v, %v", i, stiff, ok, buckles, also)
		}
		if !(stiff < -0.01) {
			continue
		}
		pushed++
		before := slowEnergy(s.b)
		b, ok := s.with(soft).pushed(1, 1.0/64)
		if behind := slowEnergy(b); !ok || !(behind < before) {
			t.Errorf("net %d is pushed from %v to %v, %v", i, before, behind, ok)
		}
	}
	if pushed == 0 {
		t.Errorf("nothing buckles")
	}
}
