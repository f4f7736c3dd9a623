package tests

import (
	"math"
	"testing"

	"loop.example/g01222/impl"
)

func isLength(x float32) bool { return x > 0 && x <= math.MaxFloat32 }

// rings are two rings with a radius, and the gap between them.
type rings struct{ radius, gap float32 }

// someRings can be joined by films, or are a bit too far apart.
func someRings() []rings {
	d := dice(31)
	var list []rings
	for range 500 {
		radius := 4.1 + d.number()
		list = append(list, rings{radius, radius * (4.05 + d.number()) / 5.4})
	}
	return list
}

// oddRings have numbers of all kinds, or ones that are so small that nearly all of their bits are rounded away.
func oddRings() []rings {
	var list []rings
	for _, radius := range oddNumbers() {
		for _, gap := range oddNumbers() {
			list = append(list, rings{radius, gap})
		}
	}
	for radius := range uint32(24) {
		for gap := range uint32(34) {
			list = append(list, rings{num(radius), num(gap)})
		}
	}
	return list
}

// wantSumIf asks for a number, or for a failure if there is none.
func wantSumIf(t *testing.T, exists bool, what string, got float32, ok bool, expected float64) {
	t.Helper()
	if exists {
		wantSum(t, what, got, ok, float32(expected))
	} else {
		wantNoSum(t, what, got, ok)
	}
}

// The slow functions compute from the document's text, with the functions of chapter 1.

func slowExp(x float64) float64 { return float64(impl.ExpNumber(float32(x))) }

func slowLog(x float64) float64 { return float64(impl.LogNumber(float32(x))) }

func slowCosh(x float64) float64 { return rounded(rounded(slowExp(x)+slowExp(-x)) / 2) }

func slowSinh(x float64) float64 { return rounded(rounded(slowExp(x)-slowExp(-x)) / 2) }

func slowWidth(neck, z float64) (float64, bool) {
	if !isLength(float32(neck)) {
		return 0, false
	}
	return rounded(neck * slowCosh(rounded(z/neck))), true
}

func slowNeck(r rings) (float64, bool) {
	if !isLength(r.radius) || !isLength(r.gap) {
		return 0, false
	}
	radius, half := float64(r.radius), rounded(float64(r.gap)/2)
	low, high := rounded(half/rounded(1.1996786)), radius
	width, ok := slowWidth(low, half)
	if !ok || width > radius || math.IsNaN(width) || low > high {
		return 0, false
	}
	for range 30 {
		middle := rounded(rounded(low+high) / 2)
		if width, ok := slowWidth(middle, half); ok && width <= radius {
			low = middle
		} else {
			high = middle
		}
	}
	return low, true
}

func slowFilmArea(neck, gap float64) (float64, bool) {
	if !isLength(float32(neck)) || !isLength(float32(gap)) {
		return 0, false
	}
	long := rounded(gap + rounded(neck*slowSinh(rounded(gap/neck))))
	return rounded(rounded(rounded(3.1415927)*neck) * long), true
}

func slowDiscs(radius float64) float64 {
	return rounded(rounded(rounded(2*rounded(3.1415927))*radius) * radius)
}

func slowHolding(r rings) bool {
	neck, ok := slowNeck(r)
	if !ok {
		return false
	}
	area, ok := slowFilmArea(neck, float64(r.gap))
	return ok && area <= slowDiscs(float64(r.radius))
}

// slowFilm computes the places of a film's mesh, and takes its triangles from chapter 2.
func slowFilm(sides, rows int64, r rings) (impl.Mesh, bool) {
	m, ok := impl.RingMesh(sides, rows, 1, 1)
	neck, hangs := slowNeck(r)
	if !ok || !hangs {
		return impl.Mesh{}, false
	}
	for i := range m.Places {
		k, row := int64(i)%sides, int64(i)/sides
		z := rounded(rounded(float64(r.gap)*rounded(float64(row)/float64(rows))) - rounded(float64(r.gap)/2))
		width, _ := slowWidth(neck, z)
		if row == 0 || row == rows {
			width = float64(r.radius)
		}
		turns := rounded(float64(k) / float64(sides))
		x, y := impl.SineTurns(float32(turns+0.25)), impl.SineTurns(float32(turns))
		m.Places[i] = vectorOf(point{width * float64(x), width * float64(y), z})
	}
	return m, true
}

func isFinitePoint(p point) bool { return p[0]-p[0] == 0 && p[1]-p[1] == 0 && p[2]-p[2] == 0 }

func slowRest(list [3]impl.Vector) (float64, bool) {
	var units [3]point
	for i, v := range list {
		p := pointOf(v)
		if !isFinitePoint(p) || p[0] == 0 && p[1] == 0 && p[2] == 0 {
			return 0, false
		}
		units[i] = p.times(rounded(1 / p.long()))
	}
	return units[0].plus(units[1]).plus(units[2]).long(), true
}

func slowPath(p impl.Vector, list [3]impl.Vector) float64 {
	long := func(i int) float64 { return pointOf(p).minus(pointOf(list[i])).long() }
	return rounded(rounded(long(0)+long(1)) + long(2))
}

func slowMeet(list [3]impl.Vector, rounds int64) (impl.Vector, bool) {
	a, b, c := pointOf(list[0]), pointOf(list[1]), pointOf(list[2])
	if !isFinitePoint(a) || !isFinitePoint(b) || !isFinitePoint(c) || rounds < 0 || rounds > 100 {
		return impl.Vector{}, false
	}
	p := a.plus(b).plus(c).times(rounded(1.0 / 3))
	for range rounds {
		u, v, w := rounded(1/p.minus(a).long()), rounded(1/p.minus(b).long()), rounded(1/p.minus(c).long())
		if !isFinitePoint(point{u, v, w}) {
			break
		}
		p = a.times(u).plus(b.times(v)).plus(c.times(w)).times(rounded(1 / rounded(rounded(u+v)+w)))
	}
	return vectorOf(p), true
}

// corners are three vectors of usual size.
func (d *dice) corners() [3]impl.Vector { return [3]impl.Vector{d.vector(), d.vector(), d.vector()} }

// oddCorners have numbers of all kinds, and many that lie on one another or on a line.
func oddCorners() [][3]impl.Vector {
	d := dice(32)
	odd := oddNumbers()
	few := []float32{0, num(minusZ), 1, -1, 2, 0.1}
	var list [][3]impl.Vector
	for i := range 1500 {
		number := func() float32 {
			if d.below(1+i%30) == 0 {
				return odd[d.below(len(odd))]
			}
			return few[d.below(len(few))]
		}
		at := func() impl.Vector { return vec(number(), number(), number()) }
		list = append(list, [3]impl.Vector{at(), at(), at()})
	}
	return list
}

// allCorners are those, and ones of usual size.
func allCorners() [][3]impl.Vector {
	d := dice(36)
	list := oddCorners()
	for range 500 {
		list = append(list, d.corners())
	}
	return list
}
