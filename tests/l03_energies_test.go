package tests

import (
	"fmt"
	"math"
	"testing"

	"loop.example/g01222/impl"
)

func TestHingesOf(t *testing.T) {
	cases := map[string]struct {
		m      impl.Mesh
		hinges [][]int64
	}{
		"empty":                    {impl.Mesh{}, nil},
		"places alone":             {meshOf(64), nil},
		"one triangle":             {meshOf(3, tri(0, 1, 2)), nil},
		"two triangles":            {meshOf(4, tri(0, 1, 2), tri(1, 0, 3)), [][]int64{{0, 1, 2, 3}}},
		"the other one first":      {meshOf(4, tri(1, 0, 3), tri(0, 1, 2)), [][]int64{{0, 1, 3, 2}}},
		"in the same direction":    {meshOf(4, tri(0, 1, 2), tri(0, 1, 3)), [][]int64{{0, 1, 2, 3}}},
		"a great edge":             {meshOf(4, tri(0, 3, 2), tri(2, 3, 1)), [][]int64{{2, 3, 0, 1}}},
		"one place in common":      {meshOf(5, tri(0, 1, 2), tri(2, 3, 4)), nil},
		"three triangles":          {fan(3), nil},
		"four triangles":           {fan(4), nil},
		"62 triangles":             {fan(62), nil},
		"both sides of one":        {meshOf(3, tri(0, 1, 2), tri(1, 0, 2)), [][]int64{{0, 1, 2, 2}, {0, 2, 1, 1}, {1, 2, 0, 0}}},
		"the same three times":     {meshOf(3, tri(0, 1, 2), tri(0, 1, 2), tri(0, 1, 2)), nil},
		"edges of all kinds":       {crowdedBody().Mesh, [][]int64{{0, 2, 1, 3}}},
		"edges of two kinds":       {mixedBody().Mesh, [][]int64{{0, 2, 1, 3}, {1, 2, 0, 4}}},
		"in order of the edges":    {meshOf(5, tri(3, 4, 2), tri(4, 3, 1), tri(1, 0, 3)), [][]int64{{1, 3, 4, 0}, {3, 4, 2, 1}}},
		"in order of second ends":  {meshOf(5, tri(0, 4, 3), tri(0, 3, 2), tri(0, 2, 1)), [][]int64{{0, 2, 3, 1}, {0, 3, 4, 2}}},
		"two that follow a third":  {meshOf(6, tri(3, 4, 5), tri(0, 1, 2), tri(2, 1, 5)), [][]int64{{1, 2, 0, 5}}},
		"places that are infinite": {impl.Mesh{Places: repeat(vec(num(inf), num(nan), 0), 5), Triangles: [][]int64{tri(0, 1, 2), tri(2, 1, 4)}}, [][]int64{{1, 2, 0, 4}}},
	}
	for what, c := range cases {
		hinges, ok := impl.HingesOf(c.m)
		wantOk(t, what, hinges, ok, c.hinges)
	}
	for _, m := range invalidMeshes() {
		hinges, ok := impl.HingesOf(m)
		wantNone(t, "hinges of an invalid mesh", hinges, ok)
	}
}

func TestHingesAreEdgesOfTwoTriangles(t *testing.T) {
	meshes := append(validMeshes(), forms()...)
	for _, b := range anyBodies() {
		meshes = append(meshes, b.Mesh)
	}
	for i, m := range meshes {
		hinges, ok := impl.HingesOf(m)
		wantOk(t, fmt.Sprintf("hinges of mesh %d", i), hinges, ok, countedHinges(m))
	}
}

func wantParts(t *testing.T, what string, b impl.Body, parts ...float32) {
	t.Helper()
	got, ok := impl.PartsOf(b)
	wantOk(t, what+", parts", got, ok, parts)
	energy, ok := impl.EnergyOf(b)
	wantSum(t, what+", energy", energy, ok, parts[0]+parts[1]+parts[2]+parts[3])
}

func TestEnergiesOfSprings(t *testing.T) {
	m := impl.Mesh{Places: []impl.Vector{vec(0, 0, 0), vec(3, 4, 0), vec(3, 4, 0)}}
	wantParts(t, "stretched", bodyOf(m, spring(0, 1, 2, 3)), 13.5, 0, 0, 0)
	wantParts(t, "pressed", bodyOf(m, spring(1, 0, 7, 3)), 6, 0, 0, 0)
	wantParts(t, "at rest", bodyOf(m, spring(0, 1, 5, 3)), 0, 0, 0, 0)
	wantParts(t, "repelled", bodyOf(m, spring(0, 1, 3, -2)), -4, 0, 0, 0)
	wantParts(t, "two", bodyOf(m, spring(0, 1, 3, 1), spring(0, 2, 4, 1)), 2.5, 0, 0, 0)
	wantParts(t, "without length", bodyOf(m, spring(1, 2, 3, 2)), 9, 0, 0, 0)
	wantParts(t, "without both lengths", bodyOf(m, spring(1, 2, 0, 2)), 0, 0, 0, 0)
	wantParts(t, "without a stiffness", bodyOf(m, spring(0, 1, 0, num(minusZ))), 0, 0, 0, 0)
	wantParts(t, "infinite", bodyOf(m, spring(0, 1, num(inf), 2)), num(inf), 0, 0, 0)
	wantParts(t, "infinite and repelled", bodyOf(m, spring(0, 1, num(inf), -2)), num(negInf), 0, 0, 0)
	wantParts(t, "a stiffness that is none", bodyOf(m, spring(0, 1, 2, num(nan))), num(nan), 0, 0, 0)
	wantParts(t, "an infinite stiffness at rest", bodyOf(m, spring(0, 1, 5, num(inf))), num(nan), 0, 0, 0)
	// 0.5 Stiff is made before e e, both of which go over or under the limits alone.
	wantParts(t, "too great a square", bodyOf(m, spring(1, 2, 1e20, 1e-30)), num(inf), 0, 0, 0)
	wantParts(t, "too small a square", bodyOf(m, spring(1, 2, 1e-30, 1e30)), 0, 0, 0, 0)
	wantParts(t, "too small a half", bodyOf(m, spring(1, 2, 1e10, num(1))), 0, 0, 0, 0)
}

func TestEnergiesOfFilms(t *testing.T) {
	film := func(m impl.Mesh, film float32) impl.Body {
		b := bodyOf(m)
		b.Film = film
		return b
	}
	wantParts(t, "film", film(legs(3, 4), 0.5), 0, 3.5, 0, 0)
	wantParts(t, "film that grows", film(legs(3, 4), -2), 0, -14, 0, 0)
	wantParts(t, "no film", film(legs(3, 4), num(minusZ)), 0, 0, 0, 0)
	wantParts(t, "triangles without area", film(legs(0, 0), 2), 0, 0, 0, 0)
	wantParts(t, "triangles without area of a film that is infinite", film(legs(0), num(inf)), 0, num(nan), 0, 0)
	wantParts(t, "no triangles of a film that is infinite", film(meshOf(3), num(inf)), 0, 0, 0, 0)
	wantParts(t, "infinite area", film(legs(1e30, 1), 1), 0, num(inf), 0, 0)
	wantParts(t, "a not-a-number", film(legs(1, num(nan)), 1), 0, num(nan), 0, num(nan))
	// The half of the length is made first: that of the film would be too small, and their product too great.
	wantParts(t, "the least film", film(legs(2), num(1)), 0, num(2), 0, 0)
	great, most := float32(8e18), float32(3e19)
	wantParts(t, "a great film", film(legs(great), most), 0, great*most, 0, 0)
	for i, m := range forms() {
		area, _ := impl.AreaOf(m)
		hinged := film(m, 1)
		parts, ok := impl.PartsOf(hinged)
		wantOk(t, fmt.Sprintf("film of 1 of form %d", i), parts, ok, []float32{0, area, 0, 0})
	}
}

// book has two triangles that meet at the edge 0 1, one of which is lifted.
func book(lift float32) impl.Mesh {
	return impl.Mesh{
		Places:    []impl.Vector{vec(0, -1, 0), vec(0, 1, 0), vec(-1, 0, 0), vec(1, 0, lift)},
		Triangles: [][]int64{tri(0, 1, 2), tri(1, 0, 3)},
	}
}

func bent(m impl.Mesh, bend float32) impl.Body {
	b := bodyOf(m)
	b.Bend = bend
	return b
}

func TestEnergiesOfHinges(t *testing.T) {
	wantParts(t, "flat", bent(book(0), 3), 0, 0, 0, 0)
	wantParts(t, "lifted", bent(book(2), 3), 0, 0, 6, 0)
	wantParts(t, "bending on", bent(book(-2), -3), 0, 0, -6, 0)
	wantParts(t, "infinite and flat", bent(book(0), num(inf)), 0, 0, num(nan), 0)
	wantParts(t, "infinite and lifted", bent(book(2), num(inf)), 0, 0, num(inf), 0)
	wantParts(t, "a not-a-number", bent(book(num(nan)), 1), 0, num(nan), num(nan), num(nan))
	wantParts(t, "no hinge", bent(meshOf(3, tri(0, 1, 2)), num(nan)), 0, 0, 0, 0)
	wantParts(t, "no hinge of three triangles", bent(fan(3), num(nan)), 0, 0, 0, 0)
	both := impl.Mesh{Places: []impl.Vector{vec(0, 0, 0), vec(3, 0, 0), vec(0, 3, 0)}, Triangles: [][]int64{tri(0, 1, 2), tri(1, 0, 2)}}
	// The three folds are -3 6 0, 6 -3 0 and -3 -3 0.
	wantParts(t, "both sides of one", bent(both, 1), 0, 0, 54, 0)
	far := book(0)
	far.Places[2], far.Places[3] = vec(-1e8, 1, 0), vec(1e8, 1, 0)
	wantParts(t, "k and l first", bent(far, 2), 0, 0, 4, 0)
	far.Places = []impl.Vector{vec(-1e8, 1, 0), vec(1e8, 1, 0), vec(0, 1, 0), vec(0, 2, 0)}
	wantParts(t, "i and j first", bent(far, 2), 0, 0, 1, 0)
}

func TestEnergiesOfWeights(t *testing.T) {
	weighed := func(fall impl.Vector, weights ...float32) impl.Body {
		b := bodyOf(impl.Mesh{Places: []impl.Vector{vec(1, 2, 3), vec(0, -1, 4), vec(num(minusZ), 0, 0)}})
		b.Fall = fall
		copy(b.Weights, weights)
		return b
	}
	wantParts(t, "weights", weighed(vec(0, 0, -10), 2, 0.5), 0, 0, 0, 80)
	wantParts(t, "weights that rise", weighed(vec(1, 2, -10), -2, 0.5), 0, 0, 0, -29)
	wantParts(t, "no weights", weighed(vec(1, 2, -10)), 0, 0, 0, 0)
	wantParts(t, "no fall", weighed(vec(0, num(minusZ), 0), 3, -5, 2), 0, 0, 0, 0)
	wantParts(t, "nothing that falls, at infinity", weighed(vec(num(inf), 1, 1)), 0, 0, 0, num(nan))
	wantParts(t, "infinite weight", weighed(vec(0, 1, 0), num(inf), 1, 0), 0, 0, 0, num(negInf))
	wantParts(t, "infinite weights", weighed(vec(0, 1, 0), num(inf), num(inf), 0), 0, 0, 0, num(nan))
	wantParts(t, "a not-a-number", weighed(vec(0, 1, 0), 1, num(nan), 1), 0, 0, 0, num(nan))
	rounded := weighed(vec(1e8, 1, -1e8), 1)
	rounded.Mesh.Places[0] = vec(1, 1, 1)
	rounded.Mesh.Places[1] = vec(0, 0, 0)
	wantParts(t, "an inner product from the left", rounded, 0, 0, 0, 0)
}

func TestPartsAreSummedFromTheLeft(t *testing.T) {
	m := impl.Mesh{Places: []impl.Vector{vec(0, 0, 0), vec(0, 0, 1)}}
	stiff := func(list ...float32) impl.Body {
		b := bodyOf(m)
		for _, x := range list {
			b.Springs = append(b.Springs, spring(0, 1, 0, 2*x))
		}
		return b
	}
	const great = 1 << 24
	wantParts(t, "great first", stiff(great, 1, 1), great, 0, 0, 0)
	wantParts(t, "great last", stiff(1, 1, great), great+2, 0, 0, 0)
	wantParts(t, "great between", stiff(1, great, 1), great, 0, 0, 0)
	wantParts(t, "great and back", stiff(great, 1, -great), 0, 0, 0, 0)
	weights := bodyOf(impl.Mesh{Places: repeat(vec(0, 0, -1), 3)})
	weights.Fall, weights.Weights = vec(0, 0, 1), []float32{great, 1, 1}
	wantParts(t, "great weight first", weights, 0, 0, 0, great)
	weights.Weights = []float32{1, 1, great}
	wantParts(t, "great weight last", weights, 0, 0, 0, great+2)
}

func TestEnergyAddsThePartsFromTheLeft(t *testing.T) {
	// A book with an area of 2, a fold of 2, a spring of 1 and a place that falls by 1.
	whole := func(springs, films, hinges, weights float32) impl.Body {
		b := bodyOf(book(2), spring(0, 1, 1, 2*springs))
		b.Mesh.Places[3] = vec(1, 0, 2)
		b.Film = films
		b.Bend = hinges / 2
		b.Fall, b.Weights = vec(-1, 0, 0), []float32{0, 0, 0, weights}
		return b
	}
	const great = 1 << 24
	area, _ := impl.AreaOf(book(2))
	cases := []struct{ springs, films, hinges, weights, energy float32 }{
		{1, 0, 2, 4, 7},
		{great, 0, 1, -great, 0},
		{great, 0, -great, 1, 1},
		{1, 0, great, 1, great},
		{great, 0, 1, 1, great},
		{1, 0, 1, great, great + 2},
	}
	for _, c := range cases {
		b := whole(c.springs, c.films, c.hinges, c.weights)
		what := fmt.Sprintf("parts %v", c)
		parts, ok := impl.PartsOf(b)
		wantOk(t, what, parts, ok, []float32{c.springs, c.films * area, c.hinges, c.weights})
		energy, ok := impl.EnergyOf(b)
		wantSum(t, what+", energy", energy, ok, c.energy)
	}
	parts, ok := impl.PartsOf(whole(0, 2, 0, 0))
	wantOk(t, "a film alone", parts, ok, []float32{0, 2 * area, 0, 0})
	b := whole(-1e8, 1e8/area, 1, 0)
	parts, _ = impl.PartsOf(b)
	energy, ok := impl.EnergyOf(b)
	wantSum(t, "springs and films first", energy, ok, parts[0]+parts[1]+1)
}

// TestEnergiesToTheLastBit has values that were computed outside of the program.
func TestEnergiesToTheLastBit(t *testing.T) {
	cases := []struct {
		b      impl.Body
		parts  []float32
		energy uint32
	}{
		{mixedBody(), nums(0x40958204, 0x407e03e4, 0x3fee8f5c, 0x407a4dd5), 0x4166a75b},
		{crowdedBody(), nums(0x40958204, 0x40b044c5, 0x3f898938, 0x407a4dd5), 0x4172a800},
	}
	for i, c := range cases {
		parts, ok := impl.PartsOf(c.b)
		wantOk(t, fmt.Sprintf("parts of body %d", i), parts, ok, c.parts)
		energy, ok := impl.EnergyOf(c.b)
		wantSum(t, fmt.Sprintf("energy of body %d", i), energy, ok, num(c.energy))
		wantOk(t, fmt.Sprintf("the slow parts of body %d", i), slowParts(c.b), true, c.parts)
	}
}

func TestEnergiesAreThoseOfTheText(t *testing.T) {
	for i, b := range append(append(validBodies(), anyBodies()...), oddBodies()...) {
		parts, ok := impl.PartsOf(b)
		wantOk(t, fmt.Sprintf("parts of body %d", i), parts, ok, slowParts(b))
		energy, ok := impl.EnergyOf(b)
		wantSum(t, fmt.Sprintf("energy of body %d", i), energy, ok, slowEnergy(b))
	}
}

func TestEnergiesOfInvalidBodies(t *testing.T) {
	for i, b := range invalidBodies() {
		parts, ok := impl.PartsOf(b)
		wantNone(t, fmt.Sprintf("parts of the invalid body %d", i), parts, ok)
		energy, ok := impl.EnergyOf(b)
		wantNoSum(t, fmt.Sprintf("energy of the invalid body %d", i), energy, ok)
	}
}

// TestEnergiesScaleExactly scales by powers of two, so that nothing is rounded.
func TestEnergiesScaleExactly(t *testing.T) {
	for i, b := range anyBodies() {
		parts, _ := impl.PartsOf(b)
		for _, by := range []float32{2, 0.25, 1024} {
			scaled := changed(b, func(b *impl.Body) {
				for j := range b.Mesh.Places {
					b.Mesh.Places[j] = impl.ScaleVector(b.Mesh.Places[j], by)
				}
				for j := range b.Springs {
					b.Springs[j].Long *= by
				}
			})
			got, ok := impl.PartsOf(scaled)
			square := by * by
			expected := []float32{parts[0] * square, parts[1] * square, parts[2] * square, parts[3] * by}
			wantOk(t, fmt.Sprintf("body %d scaled by %v", i, by), got, ok, expected)
		}
	}
	energy, ok := impl.EnergyOf(bodyOf(meshOf(2), spring(0, 1, 0, math.MaxFloat32)))
	wantSum(t, "too great an energy", energy, ok, num(inf))
}
