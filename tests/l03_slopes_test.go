package tests

import (
	"fmt"
	"math"
	"testing"

	"loop.example/g01222/impl"
)

// widePoint is a place that is not rounded to 32 bits.
type widePoint [3]float64

func widePlaces(b impl.Body) []widePoint {
	var list []widePoint
	for _, p := range b.Mesh.Places {
		list = append(list, widePoint{float64(p.X), float64(p.Y), float64(p.Z)})
	}
	return list
}

func wideInner(p, q widePoint) float64 { return p[0]*q[0] + p[1]*q[1] + p[2]*q[2] }

func wideCross(p, q widePoint) widePoint {
	return widePoint{p[1]*q[2] - p[2]*q[1], p[2]*q[0] - p[0]*q[2], p[0]*q[1] - p[1]*q[0]}
}

// wideSum returns the sum of places, each times a number.
func wideSum(places []widePoint, indices []int64, by ...float64) widePoint {
	var sum widePoint
	for i, index := range indices {
		for axis := range sum {
			sum[axis] += by[i] * places[index][axis]
		}
	}
	return sum
}

// wideEnergy computes the energy in 64 bits, and how great its parts are without their signs.
func wideEnergy(b impl.Body, places []widePoint) (energy, size float64) {
	add := func(x float64) {
		energy += x
		size += math.Abs(x)
	}
	for _, s := range b.Springs {
		d := wideSum(places, []int64{s.A, s.B}, -1, 1)
		e := math.Sqrt(wideInner(d, d)) - float64(s.Long)
		add(float64(s.Stiff) / 2 * e * e)
	}
	for _, c := range b.Mesh.Triangles {
		n := wideCross(wideSum(places, c, -1, 1, 0), wideSum(places, c, -1, 0, 1))
		add(float64(b.Film) / 2 * math.Sqrt(wideInner(n, n)))
	}
	for _, h := range countedHinges(b.Mesh) {
		v := wideSum(places, h, -1, -1, 1, 1)
		add(float64(b.Bend) / 2 * wideInner(v, v))
	}
	fall := widePoint{float64(b.Fall.X), float64(b.Fall.Y), float64(b.Fall.Z)}
	for i, weight := range b.Weights {
		add(-float64(weight) * wideInner(fall, places[i]))
	}
	return energy, size
}

// wideSlope tells how the energy changes with a place, and how exact this is: where springs or triangles nearly
// vanish, the energy bends so much that its slope at one place tells little.
func wideSlope(b impl.Body, place, axis int) (slope, doubt float64) {
	at := func(step float64) float64 {
		places := widePlaces(b)
		places[place][axis] += step
		energy, _ := wideEnergy(b, places)
		return energy
	}
	const step = 1e-4
	near := (at(step) - at(-step)) / (2 * step)
	far := (at(2*step) - at(-2*step)) / (4 * step)
	return near, math.Abs(near - far)
}

func axisOf(v impl.Vector, axis int) float64 {
	return float64([]float32{v.X, v.Y, v.Z}[axis])
}

// smoothBodies have all kinds of energies, and no spring or triangle that nearly vanishes.
func smoothBodies() []impl.Body {
	d := dice(3)
	var list []impl.Body
	for _, m := range forms() {
		b, ok := impl.SpringEdges(m, 3)
		if !ok {
			b, _ = impl.BareBody(m)
		}
		long, _ := impl.LongsOf(m)
		for i := range b.Mesh.Places {
			b.Mesh.Places[i] = impl.AddVectors(b.Mesh.Places[i], impl.ScaleVector(d.vector(), long[0]/64))
			b.Weights[i] = d.number()
		}
		for i := range b.Springs {
			b.Springs[i].Long *= 1 + d.number()/8
			b.Springs[i].Stiff = d.number()
		}
		b.Film, b.Bend, b.Fall = d.number(), d.number(), d.vector()
		list = append(list, b)
	}
	return append(list, mixedBody(), crowdedBody())
}

func TestForcesAreTheSlopesOfEnergies(t *testing.T) {
	for i, b := range append(smoothBodies(), anyBodies()...) {
		forces, ok := impl.ForcesOf(b)
		if !ok {
			t.Fatalf("forces of body %d failed", i)
		}
		longest, _ := impl.LongestOf(forces)
		for place, force := range forces {
			for axis := range 3 {
				slope, doubt := wideSlope(b, place, axis)
				near := 1e-4*(1+float64(longest)) + 4*doubt
				if got := axisOf(force, axis); math.Abs(got+slope) > near {
					t.Errorf("body %d, place %d, axis %d: the force %v is not nearly the slope %v (%v)", i, place, axis, got, slope, near)
				}
			}
		}
	}
}

// TestForcesAreNearlyWhatSlopeAtTells does the same with the energies of the program, which are rounded.
func TestForcesAreNearlyWhatSlopeAtTells(t *testing.T) {
	const step = 1.0 / 1024
	for i, b := range smoothBodies()[:9] {
		// Steps are a small share of the size of each form.
		b = changed(b, func(b *impl.Body) {
			long := impl.LongOf(impl.LessVectors(b.Mesh.Places[0], b.Mesh.Places[1]))
			for j := range b.Mesh.Places {
				b.Mesh.Places[j] = impl.ScaleVector(b.Mesh.Places[j], 1/long)
			}
			for j := range b.Springs {
				b.Springs[j].Long /= long
			}
		})
		_, size := wideEnergy(b, widePlaces(b))
		forces, _ := impl.ForcesOf(b)
		for place, force := range forces {
			for axis := range 3 {
				_, doubt := wideSlope(b, place, axis)
				near := 1e-6*size/step + 1e-2 + 400*doubt
				slope, ok := impl.SlopeAt(b, int64(place), int64(axis), step)
				if got := axisOf(force, axis); !ok || math.Abs(got+float64(slope)) > near {
					t.Errorf("body %d, place %d, axis %d: the force %v is not nearly the slope %v (%v)", i, place, axis, got, slope, near)
				}
			}
		}
	}
}

// TestForcesAddUpToNearlyNothing holds nothing and lets nothing fall, so that nothing outside of the body pulls or turns it.
func TestForcesAddUpToNearlyNothing(t *testing.T) {
	for i, b := range append(smoothBodies(), anyBodies()...) {
		b = changed(b, func(b *impl.Body) { b.Fall = impl.Vector{} })
		forces, _ := impl.ForcesOf(b)
		total, ok := impl.TotalOf(forces)
		size := float32(1)
		var turning impl.Vector
		for j, force := range forces {
			size += impl.LongOf(force)
			turning = impl.AddVectors(turning, impl.CrossOf(b.Mesh.Places[j], force))
		}
		if !ok || impl.LongOf(total) > 1e-5*size || impl.LongOf(turning) > 1e-4*size {
			t.Errorf("body %d: the forces, about %v, add up to %v and turn by %v", i, size, total, turning)
		}
	}
}

// TestStepsAlongForcesMakeTheEnergyLess checks by how much.
func TestStepsAlongForcesMakeTheEnergyLess(t *testing.T) {
	for i, b := range smoothBodies() {
		forces, _ := impl.ForcesOf(b)
		square := 0.0
		for _, force := range forces {
			square += float64(impl.InnerOf(force, force))
		}
		energy, size := wideEnergy(b, widePlaces(b))
		share := float32(1e-4 / math.Sqrt(square))
		moved, ok := impl.MovePlaces(b, forces, share)
		less, _ := wideEnergy(moved, widePlaces(moved))
		fallen, expected := energy-less, float64(share)*square
		if !ok || math.Abs(fallen-expected) > 0.1*expected+1e-7*size {
			t.Errorf("body %d: the energy falls by %v instead of nearly %v", i, fallen, expected)
		}
	}
}

func TestForcesKeepTheirSignsWhenAllIsTurned(t *testing.T) {
	for i, b := range anyBodies() {
		forces, _ := impl.ForcesOf(b)
		turned := changed(b, func(b *impl.Body) {
			b.Film, b.Bend, b.Fall = -b.Film, -b.Bend, impl.ScaleVector(b.Fall, -1)
			for j := range b.Springs {
				b.Springs[j].Stiff *= -1
			}
		})
		opposite, ok := impl.ForcesOf(turned)
		if !ok {
			t.Fatalf("forces of body %d failed", i)
		}
		for j := range forces {
			// Zeros may have other signs.
			if impl.AddVectors(forces[j], opposite[j]) != (impl.Vector{}) {
				t.Errorf("body %d, place %d: %v and %v", i, j, forces[j], opposite[j])
			}
		}
	}
}

func TestSlopeAt(t *testing.T) {
	m := impl.Mesh{Places: []impl.Vector{vec(0, 0, 0), vec(4, 0, 0)}}
	b := bodyOf(m, spring(0, 1, 1, 2))
	b.Fall, b.Weights = vec(0, 0, -8), []float32{0, 0.5}
	cases := []struct {
		place, axis int64
		step, slope float32
	}{
		{1, 0, 0.5, 6}, {0, 0, 0.5, -6}, {1, 0, 4, 6}, {1, 0, 5, 6.4}, {1, 0, 0x1p-10, 6}, {1, 1, 3, 0}, {0, 1, 3, 0}, {1, 2, 3, 4}, {0, 2, 3, 0},
		{1, 0, 1e-8, 0}, // the step is lost in the place
		{1, 0, 1e18, 0}, // and the place in the step
		{1, 0, num(1), 0},
		{1, 2, 1e25, num(nan)}, // both energies are infinite
		{0, 2, math.MaxFloat32, num(nan)},
	}
	for _, c := range cases {
		slope, ok := impl.SlopeAt(b, c.place, c.axis, c.step)
		wantSum(t, fmt.Sprintf("slope at %d, axis %d, step %v", c.place, c.axis, c.step), slope, ok, c.slope)
	}
	light := bodyOf(m)
	light.Fall, light.Weights = vec(0, 0, -1), []float32{0, 0.5}
	slope, ok := impl.SlopeAt(light, 1, 2, 1e38)
	wantSum(t, "slope with a great step", slope, ok, 0.5)
	slope, ok = impl.SlopeAt(light, 1, 2, math.MaxFloat32)
	wantSum(t, "slope with a step that is infinite twice", slope, ok, 0)
}

func TestSlopesToTheLastBit(t *testing.T) {
	cases := []struct {
		place, axis int64
		step        float32
		bits        uint32
	}{{1, 0, 0.01, 0x3f5094e0}, {2, 1, 0.125, 0x3fe5b8a0}, {4, 2, 1e-3, 0x3fee191f}, {0, 2, 3, 0x40a5a45f}}
	for _, c := range cases {
		slope, ok := impl.SlopeAt(mixedBody(), c.place, c.axis, c.step)
		wantSum(t, fmt.Sprintf("slope at %d, axis %d, step %v", c.place, c.axis, c.step), slope, ok, num(c.bits))
	}
}

func TestSlopesAreThoseOfTheText(t *testing.T) {
	stepped := func(b impl.Body, place, axis int, step float32) float64 {
		return float64(slowEnergy(changed(b, func(b *impl.Body) {
			p := &b.Mesh.Places[place]
			x := []*float32{&p.X, &p.Y, &p.Z}[axis]
			*x += step
		})))
	}
	for i, b := range append(append(validBodies(), anyBodies()...), oddBodies()...) {
		for j, step := range nums(0x3f000000, 0x3c23d70a, 0x00000001, 0x7f7fffff) {
			if len(b.Mesh.Places) == 0 {
				continue
			}
			place, axis := (i+j)%len(b.Mesh.Places), (i+2*j)%3
			slope, ok := impl.SlopeAt(b, int64(place), int64(axis), step)
			expected := rounded(stepped(b, place, axis, step)-stepped(b, place, axis, -step)) / rounded(2*float64(step))
			wantSum(t, fmt.Sprintf("body %d, place %d, axis %d, step %v", i, place, axis, step), slope, ok, float32(expected))
		}
	}
}

func TestSlopeAtTakesPlacesAxesAndSteps(t *testing.T) {
	b := mixedBody()
	for _, i := range []int64{-1, 6, 7, 1 << 32, math.MinInt64, math.MaxInt64} {
		slope, ok := impl.SlopeAt(b, i, 0, 1)
		wantNoSum(t, fmt.Sprintf("slope at %d", i), slope, ok)
	}
	for _, i := range []int64{-1, 3, 4, 1 << 32, math.MinInt64, math.MaxInt64} {
		slope, ok := impl.SlopeAt(b, 0, i, 1)
		wantNoSum(t, fmt.Sprintf("slope along the axis %d", i), slope, ok)
	}
	for _, step := range oddLengths() {
		slope, ok := impl.SlopeAt(b, 0, 0, step)
		wantNoSum(t, told("slope with the step", step), slope, ok)
	}
	for _, step := range greatLengths() {
		_, ok := impl.SlopeAt(b, 5, 2, step)
		want(t, told("slope with the step", step), ok, true)
	}
	slope, ok := impl.SlopeAt(impl.Body{}, 0, 0, 1)
	wantNoSum(t, "slope without places", slope, ok)
	for i, b := range invalidBodies() {
		slope, ok := impl.SlopeAt(b, 0, 0, 1)
		wantNoSum(t, fmt.Sprintf("slope of the invalid body %d", i), slope, ok)
	}
}
