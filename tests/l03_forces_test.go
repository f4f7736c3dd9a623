package tests

import (
	"fmt"
	"math"
	"testing"

	"loop.example/g01222/impl"
)

func wantForces(t *testing.T, what string, b impl.Body, expected ...impl.Vector) {
	t.Helper()
	forces, ok := impl.ForcesOf(b)
	wantVectors(t, "forces of "+what, forces, ok, expected)
}

func wantPull(t *testing.T, what string, b impl.Body, i int64, expected impl.Vector) {
	t.Helper()
	pull, ok := impl.PullOf(b, i)
	if !ok {
		t.Errorf("pull of %s failed", what)
	}
	wantVector(t, "pull of "+what, pull, expected)
}

func TestForcesOfSprings(t *testing.T) {
	m := impl.Mesh{Places: []impl.Vector{vec(0, 0, 0), vec(3, 4, 0)}}
	wantForces(t, "a stretched spring", bodyOf(m, spring(0, 1, 2.5, 2)), vec(3, 4, 0), vec(-3, -4, 0))
	wantForces(t, "a turned spring", bodyOf(m, spring(1, 0, 2.5, 2)), vec(3, 4, 0), vec(-3, -4, 0))
	wantForces(t, "a pressed spring", bodyOf(m, spring(0, 1, 7.5, 2)), vec(-3, -4, 0), vec(3, 4, 0))
	wantForces(t, "a spring at rest", bodyOf(m, spring(0, 1, 5, 2)), vec(0, 0, 0), vec(0, 0, 0))
	wantForces(t, "a repelled spring", bodyOf(m, spring(0, 1, 2.5, -2)), vec(-3, -4, 0), vec(3, 4, 0))
	wantForces(t, "two springs", bodyOf(m, spring(0, 1, 2.5, 2), spring(1, 0, 0, 1)), vec(6, 8, 0), vec(-6, -8, 0))
	wantForces(t, "an infinite spring", bodyOf(m, spring(0, 1, num(inf), 2)),
		vec(num(negInf), num(negInf), num(nan)), vec(num(inf), num(inf), num(nan)))
	wantForces(t, "no springs", bodyOf(m), vec(0, 0, 0), vec(0, 0, 0))
	wantForces(t, "no places", bodyOf(impl.Mesh{}))
}

func TestPullOf(t *testing.T) {
	m := impl.Mesh{Places: []impl.Vector{vec(1, 1, 1), vec(4, 5, 1), vec(1, 1, num(0x3f800001))}}
	b := bodyOf(m, spring(0, 1, 2.5, 2), spring(1, 0, 2.5, 2), spring(0, 1, 5, 2), spring(0, 1, 5, -2), spring(0, 2, 0, 8))
	wantPull(t, "a stretched spring", b, 0, vec(3, 4, 0))
	wantPull(t, "a turned spring", b, 1, vec(-3, -4, num(0)))
	wantPull(t, "a spring at rest", b, 2, vec(0, 0, 0))
	wantPull(t, "a repelled spring at rest", b, 3, vec(num(minusZ), num(minusZ), num(minusZ)))
	wantPull(t, "a short spring", b, 4, vec(0, 0, 8*0x1p-23))
	for _, i := range []int64{-1, 5, 6, 256, 1 << 32, math.MinInt64, math.MaxInt64} {
		pull, ok := impl.PullOf(b, i)
		wantNone(t, fmt.Sprintf("pull %d", i), pull, ok)
	}
	pull, ok := impl.PullOf(impl.Body{}, 0)
	wantNone(t, "pull of no spring", pull, ok)
	for i, p := range vectorsOfBits(
		0x3f2fbd57, 0xbeafbd58, 0x3dea51c9, 0xbde77852, 0x3d677852, 0x3c9a5036, 0xbf866666, 0x403c28f6, 0x4013d70a,
		0xbe985609, 0xbef78bce, 0xbeee066e, 0x3bde9aa3, 0x3e57a5d2, 0x3c5e9aa7) {
		wantPull(t, fmt.Sprintf("spring %d to the last bit", i), mixedBody(), int64(i), p)
	}
}

func TestSpringsWithoutLengthDoNotPull(t *testing.T) {
	at := func(a, b impl.Vector, long, stiff float32) impl.Body {
		return bodyOf(impl.Mesh{Places: []impl.Vector{a, b}}, spring(0, 1, long, stiff))
	}
	z := num(minusZ)
	cases := map[string]struct {
		b    impl.Body
		pull impl.Vector
	}{
		"a wanted length":            {at(vec(1, 2, 3), vec(1, 2, 3), 2, 5), vec(0, 0, 0)},
		"no wanted length":           {at(vec(1, 2, 3), vec(1, 2, 3), 0, 5), vec(0, 0, 0)},
		"an infinite stiffness":      {at(vec(1, 2, 3), vec(1, 2, 3), 2, num(inf)), vec(0, 0, 0)},
		"a stiffness that is none":   {at(vec(1, 2, 3), vec(1, 2, 3), 2, num(nan)), vec(0, 0, 0)},
		"an infinite wanted length":  {at(vec(1, 2, 3), vec(1, 2, 3), num(inf), 1), vec(0, 0, 0)},
		"a way too short to square":  {at(vec(1e-30, 0, 0), vec(0, 1e-30, 0), 2, 5), vec(z, 0, 0)},
		"a way that is minus zero":   {at(vec(0, 0, 0), vec(z, z, 0), 2, 5), vec(z, z, 0)},
		"a way that is not a number": {at(vec(num(nan), 4, 0), vec(1, 2, 3), 2, 5), vec(num(nan), z, 0)},
		"ends at the same infinity":  {at(vec(num(inf), 4, 0), vec(num(inf), 2, 3), 2, 5), vec(num(nan), z, 0)},
	}
	for what, c := range cases {
		wantPull(t, what, c.b, 0, c.pull)
		forces, ok := impl.ForcesOf(c.b)
		zero := func(x float32) float32 { return 0 * x }
		force := vec(zero(c.pull.X), zero(c.pull.Y), zero(c.pull.Z))
		wantVectors(t, "forces of "+what, forces, ok, []impl.Vector{impl.AddVectors(impl.Vector{}, force), impl.AddVectors(impl.Vector{}, force)})
	}
	wantPull(t, "an infinite way", at(vec(0, 0, 0), vec(num(inf), 1, 0), 2, 5), 0, vec(num(nan), num(nan), num(nan)))
	// The length of this way is not finite, but the quotient of both is.
	wantPull(t, "a way too long to square", at(vec(0, 0, 0), vec(1e30, 1, 0), 2, 5), 0, vec(num(nan), num(nan), num(nan)))
	wantPull(t, "a way too long to square, without a stiffness", at(vec(0, 0, 0), vec(1e30, 1, 0), 2, 0), 0, vec(num(nan), num(nan), num(nan)))
	// The square of this number is half of the least one, and a tie, which goes to zero.
	const least = 0x1p-75
	wantPull(t, "a way nearly long enough", at(vec(0, 0, 0), vec(least, 0, 0), 0, 1), 0, vec(0, 0, 0))
	wantPull(t, "a way just long enough", at(vec(0, 0, 0), vec(impl.NextUp(least), 0, 0), 0, 1), 0, vec(impl.NextUp(least), 0, 0))
}

func TestForcesOfFilms(t *testing.T) {
	film := func(m impl.Mesh, film float32) impl.Body {
		b := bodyOf(m)
		b.Film = film
		return b
	}
	// The legs 2 along X and 4 along Z: each leg pulls with half of its length across itself.
	wantForces(t, "a film", film(legs(4), 1), vec(2, 0, 1), vec(-2, 0, 0), vec(0, 0, -1))
	wantForces(t, "a film that grows", film(legs(4), -3), vec(-6, 0, -3), vec(6, 0, 0), vec(0, 0, 3))
	turned, _ := impl.TurnMesh(legs(4))
	wantForces(t, "a film turned over", film(turned, 1), vec(2, 0, 1), vec(-2, 0, 0), vec(0, 0, -1))
	wantForces(t, "no film", film(legs(4), 0), repeat(vec(0, 0, 0), 3)...)
	twice := legs(4)
	twice.Triangles = append(twice.Triangles, tri(2, 1, 0))
	wantForces(t, "two films", film(twice, 1), vec(4, 0, 2), vec(-4, 0, 0), vec(0, 0, -2))
	wantForces(t, "the least film", film(legs(4), num(1)), repeat(vec(0, 0, 0), 3)...)
	// The half of the least film is zero, even where its quotient by a small area would be great.
	long := impl.Mesh{Places: []impl.Vector{vec(0, 0, 0), vec(1e10, 0, 0), vec(0, 1e-15, 0)}, Triangles: [][]int64{tri(0, 1, 2)}}
	wantForces(t, "the least film over a long triangle", film(long, num(1)), repeat(vec(0, 0, 0), 3)...)
	wantForces(t, "an infinite film", film(legs(4), num(inf)), vec(num(inf), num(nan), num(inf)), vec(num(negInf), num(nan), num(nan)), vec(num(nan), num(nan), num(negInf)))
}

func TestTrianglesWithoutAreaDoNotPull(t *testing.T) {
	film := func(film float32, a, b, c impl.Vector) impl.Body {
		body := bodyOf(impl.Mesh{Places: []impl.Vector{a, b, c}, Triangles: [][]int64{tri(0, 1, 2)}})
		body.Film = film
		return body
	}
	o := impl.Vector{}
	for _, strength := range nums(0x3f800000, 0xbf800000, 0, minusZ, 0x7f7fffff, inf, negInf, nan) {
		wantForces(t, "three places at one", film(strength, vec(1, 2, 3), vec(1, 2, 3), vec(1, 2, 3)), o, o, o)
		wantForces(t, "two places at one", film(strength, vec(1, 2, 3), vec(1, 2, 3), vec(4, 5, 6)), o, o, o)
		wantForces(t, "three places on a line", film(strength, vec(1, 2, 3), vec(2, 3, 4), vec(3, 4, 5)), o, o, o)
		wantForces(t, "an area too small to square", film(strength, o, vec(1e-15, 0, 0), vec(0, 1e-15, 0)), o, o, o)
	}
	// The normal is a not-a-number, or across by 0 of it.
	n := num(nan)
	wantForces(t, "a place that is not a number", film(1, vec(n, 0, 0), vec(1, 0, 0), vec(0, 1, 0)), vec(n, n, n), vec(n, n, n), vec(n, n, n))
	// The quotient of a film and an infinite length is -0, by which something too great is no number.
	wantForces(t, "an area too great to square", film(1, o, vec(1e10, 0, 0), vec(0, 1e10, 0)), o, o, o)
	wantForces(t, "sides too great as well", film(1, o, vec(1e15, 0, 0), vec(0, 1e15, 0)), vec(n, n, 0), vec(n, 0, 0), vec(0, n, 0))
}

func TestForcesOfHinges(t *testing.T) {
	z := vec(0, 0, 0)
	wantForces(t, "a flat hinge", bent(book(0), 3), z, z, z, z)
	wantForces(t, "a lifted hinge", bent(book(2), 3), vec(0, 0, 6), vec(0, 0, 6), vec(0, 0, -6), vec(0, 0, -6))
	wantForces(t, "a hinge that bends on", bent(book(2), -3), vec(0, 0, -6), vec(0, 0, -6), vec(0, 0, 6), vec(0, 0, 6))
	wantForces(t, "three triangles", bent(fan(3), 3), z, z, z, z, z)
	wantForces(t, "one triangle", bent(meshOf(3, tri(0, 1, 2)), num(inf)), z, z, z)
	both := impl.Mesh{Places: []impl.Vector{vec(0, 0, 0), vec(3, 0, 0), vec(0, 3, 0)}, Triangles: [][]int64{tri(0, 1, 2), tri(1, 0, 2)}}
	// The folds of 0 1, 0 2 and 1 2 are -3 6 0, 6 -3 0 and -3 -3 0, and push the third place twice.
	wantForces(t, "both sides of one", bent(both, 1), vec(9, 9, 0), vec(-18, 9, 0), vec(9, -18, 0))
	n := num(nan)
	wantForces(t, "an infinite hinge", bent(book(0), num(inf)), vec(n, n, n), vec(n, n, n), vec(n, n, n), vec(n, n, n))
}

func TestForcesOfWeights(t *testing.T) {
	b := bodyOf(meshOf(4))
	b.Fall, b.Weights = vec(1, -2, 3), []float32{2, 0, -1, num(inf)}
	wantForces(t, "weights", b, vec(2, -4, 6), vec(0, 0, 0), vec(-1, 2, -3), vec(num(inf), num(negInf), num(inf)))
	b.Fall, b.Weights = vec(num(inf), 0, num(minusZ)), []float32{1, 0, -1, num(nan)}
	n := num(nan)
	wantForces(t, "infinite falls", b, vec(num(inf), 0, 0), vec(n, 0, 0), vec(num(negInf), 0, 0), vec(n, n, n))
}

// TestForcesAreAddedInOrder has forces so great that small ones before them get lost, but not those behind them.
func TestForcesAreAddedInOrder(t *testing.T) {
	const great = 1 << 24
	o := vec(0, 0, 0)
	springs := bodyOf(impl.Mesh{Places: []impl.Vector{o, vec(1, 0, 0), vec(-1, 0, 0)}}, spring(0, 1, 0, great), spring(0, 1, 0, 1), spring(0, 2, 0, great))
	wantForces(t, "a small spring second", springs, vec(0, 0, 0), vec(-great, 0, 0), vec(great, 0, 0))
	springs.Springs = []impl.Spring{spring(0, 1, 0, great), spring(0, 2, 0, great), spring(0, 1, 0, 1)}
	wantForces(t, "a small spring last", springs, vec(1, 0, 0), vec(-great, 0, 0), vec(great, 0, 0))
	springs.Fall, springs.Weights = vec(1, 0, 0), []float32{1, 0, 0}
	springs.Springs = []impl.Spring{spring(0, 1, 0, great)}
	wantForces(t, "a small weight behind a great spring", springs, vec(great, 0, 0), vec(-great, 0, 0), o)
	springs.Springs = []impl.Spring{spring(0, 1, 0, great), spring(0, 2, 0, great)}
	wantForces(t, "a small weight behind two great springs", springs, vec(1, 0, 0), vec(-great, 0, 0), vec(great, 0, 0))
	// A film pulls place 0 by 1 and 0.5, which is lost along X, between a great spring and a weight against it.
	film := bodyOf(impl.Mesh{Places: []impl.Vector{o, vec(1, 0, 0), vec(0, 2, 0)}, Triangles: [][]int64{tri(0, 1, 2)}}, spring(0, 1, 0, great))
	film.Film, film.Fall, film.Weights = 1, vec(-great, 0, 0), []float32{1, 0, 0}
	wantForces(t, "a small film between", film, vec(0, 0.5, 0), vec(-great, 0, 0), vec(0, -0.5, 0))
}

// TestForcesToTheLastBit has values that were computed outside of the program.
func TestForcesToTheLastBit(t *testing.T) {
	wantForces(t, "the mixed body", mixedBody(), vectorsOfBits(
		0x3ff3362c, 0xc041967c, 0xc0ac2302, 0xbf5093e7, 0x4008276b, 0x40026f0d, 0xbd6d0259, 0xbfe5beb4, 0xc02676f9,
		0x3f4482cc, 0x3dc11166, 0xc139e91a, 0xbf5da6fb, 0xbf74730b, 0xbfee08b4, 0xbf38218c, 0x4048815b, 0xbf945016)...)
	wantForces(t, "the crowded body", crowdedBody(), vectorsOfBits(
		0x40005368, 0xc03f590b, 0xc0949de3, 0xbfb7be1c, 0x400aeb96, 0x3eb265e0, 0xbcebbf86, 0xc0162f80, 0xc045c5da,
		0x3f4482cc, 0x3dc11166, 0xc139e91a, 0xbf42c5b4, 0xbf6b7d48, 0xbf8ff43a, 0xbeacdbe3, 0x40649275, 0xbee65a98)...)
}

func TestForcesAreThoseOfTheText(t *testing.T) {
	for i, b := range append(append(validBodies(), anyBodies()...), oddBodies()...) {
		what := fmt.Sprintf("body %d", i)
		wantForces(t, what, b, slowForces(b)...)
		for j, s := range b.Springs {
			d, g := slowPull(b, s)
			wantPull(t, fmt.Sprintf("spring %d of %s", j, what), b, int64(j), vectorOf(d.times(g)))
		}
	}
}

func TestForcesOfInvalidBodies(t *testing.T) {
	for i, b := range invalidBodies() {
		what := fmt.Sprintf("the invalid body %d", i)
		forces, ok := impl.ForcesOf(b)
		wantNone(t, "forces of "+what, forces, ok)
		pull, ok := impl.PullOf(b, 0)
		wantNone(t, "pull of "+what, pull, ok)
	}
}

func TestLongestOf(t *testing.T) {
	cases := []struct {
		list    []impl.Vector
		longest uint32
	}{
		{nil, 0},
		{[]impl.Vector{}, 0},
		{[]impl.Vector{vec(num(minusZ), 0, 0)}, 0},
		{[]impl.Vector{vec(0, 3, 4)}, 0x40a00000},
		{[]impl.Vector{vec(0, 3, 4), vec(-6, 0, 0), vec(1, 1, 1)}, 0x40c00000},
		{[]impl.Vector{vec(0, 3, 4), vec(-4, 0, 0)}, 0x40a00000},
		{[]impl.Vector{vec(1, 1, 0), vec(1, 0, 0)}, 0x3fb504f3},
		{[]impl.Vector{vec(1e-30, 0, 0)}, 0},
		{[]impl.Vector{vec(1e30, 0, 0), vec(1, 0, 0)}, inf},
		{[]impl.Vector{vec(1, 0, 0), vec(0, num(negInf), 0)}, inf},
		{[]impl.Vector{vec(num(nan), 0, 0), vec(1, 0, 0)}, nan},
		{[]impl.Vector{vec(1, 0, 0), vec(0, num(nan), 0)}, nan},
		{[]impl.Vector{vec(0, 0, num(nan)), vec(num(inf), 0, 0)}, nan},
		{[]impl.Vector{vec(num(inf), 0, 0), vec(num(0xffc00001), 0, 0), vec(num(inf), 0, 0)}, nan},
	}
	for _, c := range cases {
		longest, ok := impl.LongestOf(c.list)
		wantSum(t, fmt.Sprintf("longest of %v", c.list), longest, ok, num(c.longest))
	}
	longest, ok := impl.LongestOf(first(impl.ForcesOf(mixedBody())))
	wantSum(t, "longest to the last bit", longest, ok, num(0x413a5269))
}

func TestTotalOf(t *testing.T) {
	z := num(minusZ)
	cases := []struct {
		list  []impl.Vector
		total impl.Vector
	}{
		{nil, vec(0, 0, 0)},
		{[]impl.Vector{}, vec(0, 0, 0)},
		{[]impl.Vector{vec(z, z, z)}, vec(0, 0, 0)},
		{[]impl.Vector{vec(1, -2, 0.5)}, vec(1, -2, 0.5)},
		{[]impl.Vector{vec(1, -2, 0.5), vec(2, 2, 2), vec(3, 4, -5)}, vec(6, 4, -2.5)},
		{[]impl.Vector{vec(1<<24, 1, 1), vec(1, 1<<24, 1), vec(1, 1, 1<<24)}, vec(1<<24, 1<<24, 1<<24+2)},
		{[]impl.Vector{vec(1e30, 1, 0), vec(-1e30, 1, 0), vec(1, 1, 0)}, vec(1, 3, 0)},
		{[]impl.Vector{vec(math.MaxFloat32, num(inf), num(inf)), vec(math.MaxFloat32, 1, num(negInf))}, vec(num(inf), num(inf), num(nan))},
	}
	for _, c := range cases {
		total, ok := impl.TotalOf(c.list)
		if !ok {
			t.Errorf("total of %v failed", c.list)
		}
		wantVector(t, fmt.Sprintf("total of %v", c.list), total, c.total)
	}
	total, ok := impl.TotalOf(first(impl.ForcesOf(mixedBody())))
	wantOk(t, "total to the last bit", total, ok, vec(num(0x3e570a3c), num(0xbed70a40), num(0xc1a4a3d7)))
}

func TestListsOfVectorsHaveALimit(t *testing.T) {
	for _, n := range []int{255, 256, 257, 258, 5000} {
		list := repeat(vec(0.5, 0, 0), n)
		what := fmt.Sprintf("%d vectors", n)
		longest, ok := impl.LongestOf(list)
		total, allowed := impl.TotalOf(list)
		if n <= 256 {
			wantSum(t, "longest of "+what, longest, ok, 0.5)
			wantOk(t, "total of "+what, total, allowed, vec(0.5*float32(n), 0, 0))
		} else {
			wantNoSum(t, "longest of "+what, longest, ok)
			wantNone(t, "total of "+what, total, allowed)
		}
	}
}
