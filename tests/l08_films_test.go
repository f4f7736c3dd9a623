package tests

import (
	"math"
	"testing"

	"loop.example/g01222/impl"
)

// wantFilm asks for the mesh of a film, or for a failure.
func wantFilm(t *testing.T, what string, sides, rows int64, r rings, expected impl.Mesh, exists bool) {
	t.Helper()
	film, ok := impl.FilmMesh(sides, rows, r.radius, r.gap)
	if exists {
		wantMesh(t, what, film, ok, expected.Places, expected.Triangles)
	} else {
		wantNone(t, what, film, ok)
	}
}

// TestFilmMeshToTheLastBit has values that were computed outside of the program.
func TestFilmMeshToTheLastBit(t *testing.T) {
	for _, c := range []struct {
		sides, rows int64
		rings       rings
		bits        []uint32
	}{
		{4, 2, rings{1, 0.5}, []uint32{
			0x3f800000, 0, 0xbe800000, minusZ, 0x3f800000, 0xbe800000, 0xbf800000, minusZ, 0xbe800000, 0, 0xbf800000, 0xbe800000,
			0x3f77af73, 0, 0, minusZ, 0x3f77af73, 0, 0xbf77af73, minusZ, 0, 0, 0xbf77af73, 0,
			0x3f800000, 0, 0x3e800000, minusZ, 0x3f800000, 0x3e800000, 0xbf800000, minusZ, 0x3e800000, 0, 0xbf800000, 0x3e800000,
		}},
		{3, 2, rings{1.5, 1.1}, []uint32{
			0x3fc00000, 0, 0xbf0ccccd, 0xbf400006, 0x3fa646e1, 0xbf0ccccd, 0xbf3ffffd, 0xbfa646e2, 0xbf0ccccd,
			0x3fb1e2f5, 0, 0, 0xbf31e2fb, 0x3f9a0de5, 0, 0xbf31e2f2, 0xbf9a0de5, 0,
			0x3fc00000, 0, 0x3f0ccccd, 0xbf400006, 0x3fa646e1, 0x3f0ccccd, 0xbf3ffffd, 0xbfa646e2, 0x3f0ccccd,
		}},
		// A third and two thirds of the gap are rounded to heights that are not opposite.
		{5, 3, rings{0.7, 0.9}, []uint32{
			0x3f333333, 0, 0xbee66666, 0x3e5d80e1, 0x3f2a6de9, 0xbee66666, 0xbf10f9d0, 0x3ed2a988, 0xbee66666, 0xbf10f9d0, 0xbed2a98b, 0xbee66666, 0x3e5d80d0, 0xbf2a6de8, 0xbee66666,
			0x3efa4115, 0, 0xbe199998, 0x3e1aaa68, 0x3eee0184, 0xbe199998, 0xbeca75bc, 0x3e931883, 0xbe199998, 0xbeca75bc, 0xbe931884, 0xbe199998, 0x3e1aaa5c, 0xbeee0183, 0xbe199998,
			0x3efa4115, 0, 0x3e19999c, 0x3e1aaa68, 0x3eee0184, 0x3e19999c, 0xbeca75bc, 0x3e931883, 0x3e19999c, 0xbeca75bc, 0xbe931884, 0x3e19999c, 0x3e1aaa5c, 0xbeee0183, 0x3e19999c,
			0x3f333333, 0, 0x3ee66666, 0x3e5d80e1, 0x3f2a6de9, 0x3ee66666, 0xbf10f9d0, 0x3ed2a988, 0x3ee66666, 0xbf10f9d0, 0xbed2a98b, 0x3ee66666, 0x3e5d80d0, 0xbf2a6de8, 0x3ee66666,
		}},
		// The first and the last row can be all rows.
		{6, 1, rings{2.3, 0.4}, []uint32{
			0x40133333, 0, 0xbe4ccccd, 0x3f933331, 0x3ffef538, 0xbe4ccccd, 0xbf933338, 0x3ffef537, 0xbe4ccccd, 0xc0133333, minusZ, 0xbe4ccccd, 0xbf933331, 0xbffef538, 0xbe4ccccd, 0x3f93332a, 0xbffef538, 0xbe4ccccd,
			0x40133333, 0, 0x3e4ccccd, 0x3f933331, 0x3ffef538, 0x3e4ccccd, 0xbf933338, 0x3ffef537, 0x3e4ccccd, 0xc0133333, minusZ, 0x3e4ccccd, 0xbf933331, 0xbffef538, 0x3e4ccccd, 0x3f93332a, 0xbffef538, 0x3e4ccccd,
		}},
	} {
		what := told("film", c.sides, c.rows, c.rings)
		ring, _ := impl.RingMesh(c.sides, c.rows, 9, 7)
		wantFilm(t, what, c.sides, c.rows, c.rings, impl.Mesh{Places: vectorsOfBits(c.bits...), Triangles: ring.Triangles}, true)
	}
}

// TestFirstAndLastRowsAreRings asks for the places of RingMesh, which are just nearly as wide as the film inside.
func TestFirstAndLastRowsAreRings(t *testing.T) {
	narrower := 0
	for i, r := range someRings() {
		sides, rows := int64(3+i%8), int64(1+i%5)
		film, ok := impl.FilmMesh(sides, rows, r.radius, r.gap)
		if !ok {
			continue
		}
		ring, _ := impl.RingMesh(sides, rows, r.radius, 1)
		for k := range sides {
			at := ring.Places[k]
			wantVector(t, told("the first row", r), film.Places[k], vec(at.X, at.Y, -r.gap/2))
			wantVector(t, told("the last row", r), film.Places[sides*rows+k], vec(at.X, at.Y, r.gap/2))
		}
		neck, _ := impl.NeckOf(r.radius, r.gap)
		if width, _ := impl.WidthAt(neck, r.gap/2); width < r.radius {
			narrower++
		}
	}
	if narrower < 20 {
		t.Errorf("just %d films are narrower than their rings", narrower)
	}
}

func TestFilmMeshIsThatOfTheText(t *testing.T) {
	for i, r := range append(someRings(), oddRings()...) {
		sides, rows := int64(2+i%16), int64(i%9)
		expected, exists := slowFilm(sides, rows, r)
		wantFilm(t, told("film", sides, rows, r.radius, r.gap), sides, rows, r, expected, exists)
	}
}

func TestFilmsOfAllSizes(t *testing.T) {
	r := rings{2, 1.5}
	for sides := range int64(66) {
		for rows := range int64(66) {
			what := told("film of sides and rows", sides, rows)
			expected, exists := slowFilm(sides, rows, r)
			want(t, what, exists, sides >= 3 && sides <= 16 && rows >= 1 && sides*(rows+1) <= 64)
			wantFilm(t, what, sides, rows, r, expected, exists)
			if exists {
				wantForm(t, what, expected, true, 0, int(2*sides))
			}
		}
	}
	for _, n := range []int64{-1, -3, math.MinInt64, 1 << 32, 1<<32 + 3, 1 << 62, math.MaxInt64 - 1, math.MaxInt64} {
		for _, m := range []int64{n, 3, 1, 0} {
			wantFilm(t, told("film of sides and rows", n, m), n, m, r, impl.Mesh{}, false)
			wantFilm(t, told("film of sides and rows", m, n), m, n, r, impl.Mesh{}, false)
		}
	}
}

// TestFilmsAtTheWidestGap has meshes for the last gap at which there is a film, and none beside it.
func TestFilmsAtTheWidestGap(t *testing.T) {
	for _, radius := range []float32{1, 2.3, 0.1, 1000} {
		widest, _ := impl.WidestGap(radius)
		neck, _ := impl.NeckOf(radius, widest)
		film, ok := impl.FilmMesh(16, 2, radius, widest)
		wantForm(t, told("film", radius), film, ok, 0, 32)
		wantVector(t, told("its neck", radius), film.Places[16], vec(neck, 0, 0))
		wantFilm(t, told("no film", radius), 16, 2, rings{radius, math.Nextafter32(widest, 9999)}, impl.Mesh{}, false)
	}
}

// tubeAndFilm are two meshes between the same rings, and the places of these.
func tubeAndFilm(r rings) (tube, film impl.Mesh, held []int64) {
	const sides, rows = 8, 6
	film, _ = impl.FilmMesh(sides, rows, r.radius, r.gap)
	tube, _ = impl.RingMesh(sides, rows, r.radius, r.gap/rows)
	tube, _ = impl.MoveMesh(tube, vec(0, 0, -r.gap/2))
	for place := range int64(len(film.Places)) {
		if place < sides || place >= sides*rows {
			held = append(held, place)
		}
	}
	return tube, film, held
}

// TestFilmsAreNearlyAtRest lets tubes shrink: they become nearly as small as films, which hardly shrink any more.
func TestFilmsAreNearlyAtRest(t *testing.T) {
	for _, r := range []rings{{1, 0.4}, {1, 0.8}, {1, 1}, {1, 1.2}, {2.5, 2.4}} {
		tube, film, held := tubeAndFilm(r)
		shrunk := func(m impl.Mesh) float32 {
			b, _ := impl.BareBody(m)
			b.Film = 1
			var energies []float32
			for range 4 {
				b, energies, _ = impl.RunDown(b, held, 0.5, 40)
			}
			return energies[len(energies)-1]
		}
		tubeArea, _ := impl.AreaOf(tube)
		filmArea, ok := impl.AreaOf(film)
		least, all := shrunk(film), shrunk(tube)
		if !(ok && filmArea < tubeArea && least <= filmArea && least > 0.995*filmArea && max(all, least) < 1.0001*min(all, least)) {
			t.Errorf("between %v: a film of %v shrinks to %v, and a tube of %v to %v", r, filmArea, least, tubeArea, all)
		}
		b, _ := impl.BareBody(film)
		b.Film = 1
		rest, ok := impl.RestOf(b, held)
		if !ok || !(rest < 0.03*r.radius) {
			t.Errorf("between %v: a film pulls with %v", r, rest)
		}
		// Six rows of eight sides have nearly the area of the film that is round.
		neck, _ := impl.NeckOf(r.radius, r.gap)
		exact, ok := impl.FilmArea(neck, r.gap)
		if !ok || !(filmArea < exact && filmArea > 0.96*exact) {
			t.Errorf("between %v: a mesh of %v for a film of %v", r, filmArea, exact)
		}
	}
}

// TestFilmsAreAsNarrowAsTheyCanBe compares the area between two rings with that of tubes that are narrower by any curve.
func TestFilmsAreAsNarrowAsTheyCanBe(t *testing.T) {
	for _, r := range someRings()[:100] {
		neck, ok := impl.NeckOf(r.radius, r.gap)
		if !ok {
			continue
		}
		// The area of a surface around an axis is computed in many thin slices, with widths that are not rounded.
		area := func(by float64) float64 {
			const slices = 2000
			c, gap, sum := float64(neck), float64(r.gap), 0.0
			width := func(i int) float64 {
				share := float64(i) / slices
				return c*math.Cosh((share-0.5)*gap/c) + by*math.Sin(math.Pi*share)
			}
			for i := range slices {
				sum += math.Pi * (width(i) + width(i+1)) * math.Hypot(width(i+1)-width(i), gap/slices)
			}
			return sum
		}
		told, _ := impl.FilmArea(neck, r.gap)
		exact, by := area(0), 0.02*float64(r.radius)
		if math.Abs(float64(told)-exact) > 2e-5*exact {
			t.Errorf("between %v: the area %v instead of %v", r, told, exact)
		}
		if r.gap < 1.2*r.radius && !(area(by) > exact && area(-by) > exact) {
			t.Errorf("between %v: the area %v is not less than %v and %v", r, exact, area(by), area(-by))
		}
	}
}

func TestShrinkRing(t *testing.T) {
	m := mixedBody().Mesh
	m.Places[5].Z = num(minusZ)
	for _, share := range append(oddNumbers(), 0.5, 0.7, -3, 1e-20) {
		var places []impl.Vector
		for _, p := range m.Places {
			places = append(places, vec(float32(float64(p.X)*float64(share)), float32(float64(p.Y)*float64(share)), p.Z))
		}
		shrunk, ok := impl.ShrinkRing(m, share)
		wantMesh(t, told("share", share), shrunk, ok, places, m.Triangles)
	}
	at := impl.Mesh{Places: []impl.Vector{vec(1.1, -2.3, 7), vec(num(minusZ), 0, num(nan)), vec(num(inf), num(nan), num(negInf)), vec(2e38, -2e38, 2e38)}}
	shrunk, ok := impl.ShrinkRing(at, 0.7)
	wantMesh(t, "0.7", shrunk, ok, append(vectorsOfBits(0x3f451eb8, 0xbfce147a, 0x40e00000), vec(num(minusZ), 0, num(nan)),
		vec(num(inf), num(nan), num(negInf)), vec(num(0x7ed2a609), num(0xfed2a609), 2e38)), nil)
	shrunk, ok = impl.ShrinkRing(at, -2)
	wantMesh(t, "-2", shrunk, ok, []impl.Vector{vec(-2.2, 4.6, 7), vec(0, num(minusZ), num(nan)), vec(num(negInf), num(nan), num(negInf)), vec(num(negInf), num(inf), 2e38)}, nil)
	shrunk, ok = impl.ShrinkRing(at, 0)
	wantMesh(t, "0", shrunk, ok, []impl.Vector{vec(0, num(minusZ), 7), vec(num(minusZ), 0, num(nan)), vec(num(nan), num(nan), num(negInf)), vec(0, num(minusZ), 2e38)}, nil)
	shrunk, ok = impl.ShrinkRing(impl.Mesh{}, 0.5)
	wantMesh(t, "no places", shrunk, ok, nil, nil)
}

func TestShrinkRingTakesAnyValidMesh(t *testing.T) {
	for i, m := range oddMeshes() {
		share := oddNumbers()[i%31]
		var places []impl.Vector
		for _, p := range m.Places {
			places = append(places, vec(float32(float64(p.X)*float64(share)), float32(float64(p.Y)*float64(share)), p.Z))
		}
		shrunk, ok := impl.ShrinkRing(m, share)
		wantMesh(t, told("mesh", i, share), shrunk, ok, places, m.Triangles)
	}
	for i, m := range invalidMeshes() {
		for _, share := range []float32{0.5, 1, num(nan)} {
			shrunk, ok := impl.ShrinkRing(m, share)
			wantNone(t, told("the invalid mesh", i, share), shrunk, ok)
		}
	}
}

// TestFilmsShrinkWithTheirRings compares a film between smaller rings with a film that has been shrunk.
func TestFilmsShrinkWithTheirRings(t *testing.T) {
	film, _ := impl.FilmMesh(5, 4, 2, 1.5)
	half, _ := impl.ScaleMesh(film, 0.5)
	small, ok := impl.FilmMesh(5, 4, 1, 0.75)
	wantMesh(t, "half of a film", half, ok, small.Places, small.Triangles)
	shrunk, ok := impl.ShrinkRing(film, 0.5)
	for i := range small.Places {
		small.Places[i].Z = film.Places[i].Z
	}
	wantMesh(t, "a shrunk film", shrunk, ok, small.Places, small.Triangles)
}
