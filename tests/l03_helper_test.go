package tests

import (
	"fmt"
	"math"
	"testing"

	"loop.example/g01222/impl"
)

func spring(a, b int64, long, stiff float32) impl.Spring {
	return impl.Spring{A: a, B: b, Long: long, Stiff: stiff}
}

// bodyOf makes a body of a mesh and springs, all of whose numbers are +0.
func bodyOf(m impl.Mesh, springs ...impl.Spring) impl.Body {
	return impl.Body{Mesh: m, Springs: springs, Weights: make([]float32, len(m.Places))}
}

// changed returns a body after a change of its own lists.
func changed(b impl.Body, change func(b *impl.Body)) impl.Body {
	b = spareBody(b)
	change(&b)
	return b
}

// spareBody copies a body so that each of its lists has unused capacity.
func spareBody(b impl.Body) impl.Body {
	b.Mesh = spare(b.Mesh)
	b.Springs = append(make([]impl.Spring, 0, len(b.Springs)+3), b.Springs...)
	b.Weights = append(make([]float32, 0, len(b.Weights)+3), b.Weights...)
	return b
}

// wholeBody tells a body with all that its lists could hold.
func wholeBody(b impl.Body) string {
	return whole(b.Mesh) + told(b.Springs[:cap(b.Springs)], b.Weights[:cap(b.Weights)], b.Film, b.Bend, b.Fall)
}

// mixedBody has an edge of each kind, places with and without triangles, and a
// spring without a wanted length.
func mixedBody() impl.Body {
	return impl.Body{
		Mesh: impl.Mesh{
			Places: []impl.Vector{
				vec(0.1, 0.2, 0.3), vec(1.3, -0.4, 0.5), vec(0.7, 1.9, -0.6),
				vec(-1.1, 0.8, 0.9), vec(2.2, 1.4, 1.7), vec(0.6, -1.2, -0.8),
			},
			Triangles: [][]int64{tri(0, 1, 2), tri(2, 3, 0), tri(1, 4, 2)},
		},
		Springs: []impl.Spring{
			spring(0, 1, 0.9, 1.7), spring(3, 1, 2.5, -0.6), spring(5, 0, 0, 2.1), spring(4, 5, 1.5, 0.3), spring(2, 5, 3.3, 1.1),
		},
		Film: 0.7, Bend: 0.35, Weights: []float32{0.3, -0.2, 0.5, 1.1, 0, 0.4}, Fall: vec(0.1, -0.2, -9.8),
	}
}

// crowdedBody is the mixed one with a third triangle at the edge 1 2, which is no hinge any more.
func crowdedBody() impl.Body {
	b := mixedBody()
	b.Mesh.Triangles = append(b.Mesh.Triangles, tri(2, 1, 5))
	return b
}

// dice are numbers that look like any, but are the same in each run.
type dice uint64

func (d *dice) below(n int) int {
	*d = *d*6364136223846793005 + 1442695040888963407
	return int(uint64(*d)>>33) % n
}

// number returns one from -4 to 4.
func (d *dice) number() float32 { return float32(d.below(1<<24)-1<<23) / (1 << 21) }

func (d *dice) vector() impl.Vector { return vec(d.number(), d.number(), d.number()) }

// body returns one with all kinds of energies, in which number makes all numbers.
func (d *dice) body(number func() float32) impl.Body {
	places := 3 + d.below(6)
	var b impl.Body
	for range places {
		b.Mesh.Places = append(b.Mesh.Places, vec(number(), number(), number()))
		b.Weights = append(b.Weights, number())
	}
	for range d.below(10) {
		a, turn := d.below(places), 1+d.below(places-2)
		c := []int64{int64(a), int64((a + turn) % places), int64((a + turn + 1) % places)}
		b.Mesh.Triangles = append(b.Mesh.Triangles, c)
	}
	for range d.below(12) {
		a := d.below(places)
		long := number()
		if !(long >= 0) {
			long = 1.5
		}
		b.Springs = append(b.Springs, spring(int64(a), int64((a+1+d.below(places-1))%places), long, number()))
	}
	b.Film, b.Bend, b.Fall = number(), number(), vec(number(), number(), number())
	return b
}

// anyBodies have numbers of usual size.
func anyBodies() []impl.Body {
	d := dice(1)
	var list []impl.Body
	for range 300 {
		list = append(list, d.body(d.number))
	}
	return list
}

// oddBodies have numbers of all kinds, some of them many and some few.
func oddBodies() []impl.Body {
	d := dice(2)
	odd := oddNumbers()
	var list []impl.Body
	for i := range 600 {
		list = append(list, d.body(func() float32 {
			if d.below(1+i%20) == 0 {
				return odd[d.below(len(odd))]
			}
			return d.number()
		}))
	}
	return list
}

// validBodies are bodies with springs and meshes of all kinds.
func validBodies() []impl.Body {
	list := []impl.Body{{}, mixedBody(), crowdedBody()}
	for i, m := range validMeshes() {
		b := bodyOf(m)
		for place := range int64(len(m.Places) - 1) {
			b.Springs = append(b.Springs, spring(place, place+1, 0.5, 2), spring(place+1, 0, 0, -1))
			b.Weights[place] = float32(place)
		}
		b.Film, b.Bend, b.Fall = 0.1, float32(i), vec(0, 0.25, -1)
		list = append(list, bodyOf(m), b)
	}
	two := meshOf(2)
	list = append(list,
		bodyOf(two, repeat(spring(0, 1, 1, 1), 200)...),
		bodyOf(two, spring(1, 0, num(minusZ), num(minusZ)), spring(0, 1, num(inf), num(inf)), spring(0, 1, num(1), num(negInf))),
		bodyOf(two, spring(0, 1, 0, num(nan)), spring(1, 0, math.MaxFloat32, -math.MaxFloat32)),
		bodyOf(meshOf(64), spring(63, 0, 1, 1), spring(0, 63, 1, 1)),
		impl.Body{Mesh: two, Film: num(nan), Bend: num(inf), Weights: nums(negInf, nan), Fall: vec(num(inf), num(nan), num(minusZ))},
	)
	return append(append(list, anyBodies()[:20]...), oddBodies()[:100]...)
}

// invalidBodies break one rule each.
func invalidBodies() []impl.Body {
	two := meshOf(2)
	list := []impl.Body{
		bodyOf(two, repeat(spring(0, 1, 1, 1), 201)...), bodyOf(two, repeat(spring(0, 1, 1, 1), 5000)...),
		bodyOf(impl.Mesh{}, spring(0, 1, 1, 1)), bodyOf(impl.Mesh{}, spring(0, 0, 1, 1)), bodyOf(meshOf(1), spring(0, 0, 1, 1)),
		bodyOf(two, spring(0, 0, 1, 1)), bodyOf(two, spring(1, 1, 1, 1)), bodyOf(two, impl.Spring{}),
		bodyOf(two, spring(0, 1, 1, 1), spring(1, 1, 1, 1)), bodyOf(two, spring(1, 1, 1, 1), spring(0, 1, 1, 1)),
		{Weights: []float32{0}}, {Mesh: two}, {Mesh: two, Weights: []float32{}}, {Mesh: two, Weights: []float32{0}},
		{Mesh: two, Weights: []float32{0, 0, 0}}, {Mesh: two, Weights: make([]float32, 200)},
		{Mesh: two, Springs: []impl.Spring{spring(0, 1, 1, 1)}, Weights: []float32{0}},
	}
	for _, place := range []int64{-1, 2, 3, 256, 1 << 32, 1<<32 + 1, math.MinInt64, math.MaxInt64} {
		list = append(list, bodyOf(two, spring(0, place, 1, 1)), bodyOf(two, spring(place, 1, 1, 1)), bodyOf(two, spring(place, place, 1, 1)))
	}
	for _, long := range nums(0x80000001, 0xbf800000, 0xff7fffff, negInf, nan, 0xffc00001) {
		list = append(list, bodyOf(two, spring(0, 1, long, 1)), bodyOf(two, spring(0, 1, 1, 1), spring(1, 0, long, 1)))
	}
	for _, m := range invalidMeshes() {
		list = append(list, bodyOf(m))
	}
	return list
}

// rounded returns the nearest 32-bit number, as a 64-bit one. Sums, products, quotients and roots of
// 32-bit numbers that are made with 64 bits and then rounded are those of 32 bits, to the last bit.
func rounded(x float64) float64 { return float64(float32(x)) }

// point is a place whose numbers are 32-bit ones.
type point [3]float64

func pointOf(v impl.Vector) point { return point{float64(v.X), float64(v.Y), float64(v.Z)} }

func vectorOf(p point) impl.Vector { return vec(float32(p[0]), float32(p[1]), float32(p[2])) }

func pointsOf(list []impl.Vector) []point {
	points := make([]point, len(list))
	for i, v := range list {
		points[i] = pointOf(v)
	}
	return points
}

func (p point) plus(q point) point {
	return point{rounded(p[0] + q[0]), rounded(p[1] + q[1]), rounded(p[2] + q[2])}
}

func (p point) minus(q point) point {
	return point{rounded(p[0] - q[0]), rounded(p[1] - q[1]), rounded(p[2] - q[2])}
}

func (p point) times(x float64) point {
	return point{rounded(p[0] * x), rounded(p[1] * x), rounded(p[2] * x)}
}

func (p point) inner(q point) float64 {
	return rounded(rounded(rounded(p[0]*q[0])+rounded(p[1]*q[1])) + rounded(p[2]*q[2]))
}

func (p point) long() float64 { return rounded(math.Sqrt(p.inner(p))) }

func (p point) cross(q point) point {
	return point{
		rounded(rounded(p[1]*q[2]) - rounded(p[2]*q[1])),
		rounded(rounded(p[2]*q[0]) - rounded(p[0]*q[2])),
		rounded(rounded(p[0]*q[1]) - rounded(p[1]*q[0])),
	}
}

// countedHinges finds the hinges pair by pair.
func countedHinges(m impl.Mesh) [][]int64 {
	var list [][]int64
	edges, at := countedEdges(m)
	for i, e := range edges {
		if len(at[i]) != 2 {
			continue
		}
		h := []int64{e[0], e[1]}
		for _, triangle := range at[i] {
			for _, place := range m.Triangles[triangle] {
				if place != e[0] && place != e[1] {
					h = append(h, place)
				}
			}
		}
		list = append(list, h)
	}
	return list
}

// slowParts computes the parts of the energy from the document's text.
func slowParts(b impl.Body) []float32 {
	at := pointsOf(b.Mesh.Places)
	var parts [4]float64
	for _, s := range b.Springs {
		e := rounded(at[s.B].minus(at[s.A]).long() - float64(s.Long))
		parts[0] = rounded(parts[0] + rounded(rounded(0.5*float64(s.Stiff))*rounded(e*e)))
	}
	for _, c := range b.Mesh.Triangles {
		n := at[c[1]].minus(at[c[0]]).cross(at[c[2]].minus(at[c[0]]))
		parts[1] = rounded(parts[1] + rounded(float64(b.Film)*rounded(0.5*n.long())))
	}
	for _, h := range countedHinges(b.Mesh) {
		v := at[h[2]].plus(at[h[3]]).minus(at[h[0]].plus(at[h[1]]))
		parts[2] = rounded(parts[2] + rounded(rounded(0.5*float64(b.Bend))*v.inner(v)))
	}
	for i, weight := range b.Weights {
		parts[3] = rounded(parts[3] - rounded(float64(weight)*pointOf(b.Fall).inner(at[i])))
	}
	return []float32{float32(parts[0]), float32(parts[1]), float32(parts[2]), float32(parts[3])}
}

func slowEnergy(b impl.Body) float32 {
	parts := slowParts(b)
	sum := 0.0
	for _, part := range parts {
		sum = rounded(sum + float64(part))
	}
	return float32(sum)
}

// slowPull returns the way of a spring, and what it pulls for each unit of it.
func slowPull(b impl.Body, s impl.Spring) (point, float64) {
	d := pointOf(b.Mesh.Places[s.B]).minus(pointOf(b.Mesh.Places[s.A]))
	long := d.long()
	if !(long > 0) {
		return d, 0
	}
	return d, rounded(rounded(float64(s.Stiff)*rounded(long-float64(s.Long))) / long)
}

// slowForces computes the forces from the document's text.
func slowForces(b impl.Body) []impl.Vector {
	at := pointsOf(b.Mesh.Places)
	forces := make([]point, len(at))
	add := func(place int64, force point) { forces[place] = forces[place].plus(force) }
	for _, s := range b.Springs {
		d, g := slowPull(b, s)
		add(s.A, d.times(g))
		add(s.B, d.times(-g))
	}
	for _, c := range b.Mesh.Triangles {
		n := at[c[1]].minus(at[c[0]]).cross(at[c[2]].minus(at[c[0]]))
		f := 0.0
		if n.long() > 0 {
			f = rounded(-rounded(0.5*float64(b.Film)) / n.long())
		}
		for i := range c {
			first, next, last := c[i], c[(i+1)%3], c[(i+2)%3]
			add(first, n.cross(at[last].minus(at[next])).times(f))
		}
	}
	for _, h := range countedHinges(b.Mesh) {
		v := at[h[2]].plus(at[h[3]]).minus(at[h[0]].plus(at[h[1]]))
		add(h[0], v.times(float64(b.Bend)))
		add(h[1], v.times(float64(b.Bend)))
		add(h[2], v.times(-float64(b.Bend)))
		add(h[3], v.times(-float64(b.Bend)))
	}
	list := make([]impl.Vector, len(forces))
	for i, force := range forces {
		list[i] = vectorOf(force.plus(pointOf(b.Fall).times(float64(b.Weights[i]))))
	}
	return list
}

func wantVectors(t *testing.T, what string, got []impl.Vector, ok bool, expected []impl.Vector) {
	t.Helper()
	if !ok || len(got) != len(expected) {
		t.Fatalf("%s: %d vectors, %v; want %d", what, len(got), ok, len(expected))
	}
	for i := range expected {
		wantVector(t, fmt.Sprintf("%s, vector %d", what, i), got[i], expected[i])
	}
}
