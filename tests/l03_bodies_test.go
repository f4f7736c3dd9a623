package tests

import (
	"fmt"
	"math"
	"testing"

	"loop.example/g01222/impl"
)

func TestValidBody(t *testing.T) {
	for i, b := range validBodies() {
		want(t, fmt.Sprintf("valid body %d", i), impl.ValidBody(b), true)
	}
	for i, b := range invalidBodies() {
		want(t, fmt.Sprintf("invalid body %d", i), impl.ValidBody(b), false)
	}
	empty := impl.Body{Mesh: impl.Mesh{Places: []impl.Vector{}, Triangles: [][]int64{}}, Springs: []impl.Spring{}, Weights: []float32{}}
	want(t, "an empty body", impl.ValidBody(empty), true)
}

func TestLimitsOfBodiesCanBeReached(t *testing.T) {
	want(t, "MaxSprings", impl.MaxSprings, 200)
	for _, springs := range []int{199, 200, 201} {
		for _, places := range []int{63, 64, 65} {
			for _, triangles := range []int{127, 128, 129} {
				b := bodyOf(meshOf(places, repeat(tri(62, 0, 31), triangles)...), repeat(spring(62, 5, 1, 1), springs)...)
				allowed := springs <= 200 && places <= 64 && triangles <= 128
				what := fmt.Sprintf("%d springs, %d places, %d triangles", springs, places, triangles)
				want(t, what, impl.ValidBody(b), allowed)
				pull, ok := impl.PullOf(b, 198)
				if allowed != ok || allowed == (pull == impl.Vector{}) {
					t.Errorf("%s: pull %v, %v", what, pull, ok)
				}
			}
		}
	}
}

func TestWeightsAreAsManyAsPlaces(t *testing.T) {
	for places := range 6 {
		for weights := range 8 {
			b := impl.Body{Mesh: meshOf(places), Weights: make([]float32, weights)}
			want(t, fmt.Sprintf("%d places and %d weights", places, weights), impl.ValidBody(b), places == weights)
		}
	}
}

func TestSpringsJoinTwoDifferentPlaces(t *testing.T) {
	m := meshOf(5, tri(0, 1, 2))
	for a := int64(-2); a < 8; a++ {
		for b := int64(-2); b < 8; b++ {
			allowed := a >= 0 && a < 5 && b >= 0 && b < 5 && a != b
			want(t, fmt.Sprintf("spring %d %d", a, b), impl.ValidBody(bodyOf(m, spring(a, b, 1, 1))), allowed)
		}
	}
	for _, long := range oddNumbers() {
		want(t, told("long", long), impl.ValidBody(bodyOf(m, spring(0, 4, long, 1))), long >= 0)
		want(t, told("stiff", long), impl.ValidBody(bodyOf(m, spring(0, 4, 1, long))), true)
	}
}

func TestSameBody(t *testing.T) {
	bodies := append(validBodies()[:80], invalidBodies()...)
	texts := make([]string, len(bodies))
	for i, b := range bodies {
		texts[i] = told(b)
	}
	for i, a := range bodies {
		for j, b := range bodies {
			if impl.SameBody(a, b) != (texts[i] == texts[j]) {
				t.Errorf("bodies %d and %d: same is %v", i, j, impl.SameBody(a, b))
			}
		}
	}
}

func TestSameBodyComparesTheSmallestDifference(t *testing.T) {
	next := func(x *float32) { *x = num(bitsOf(*x) + 1) }
	a := mixedBody()
	cases := map[string]func(b *impl.Body){
		"a next place":            func(b *impl.Body) { next(&b.Mesh.Places[4].Y) },
		"a turned triangle":       func(b *impl.Body) { b.Mesh.Triangles[0] = tri(1, 2, 0) },
		"a next Film":             func(b *impl.Body) { next(&b.Film) },
		"a next Bend":             func(b *impl.Body) { next(&b.Bend) },
		"a next X of Fall":        func(b *impl.Body) { next(&b.Fall.X) },
		"a next Y of Fall":        func(b *impl.Body) { next(&b.Fall.Y) },
		"a next Z of Fall":        func(b *impl.Body) { next(&b.Fall.Z) },
		"a next weight":           func(b *impl.Body) { next(&b.Weights[5]) },
		"a weight of -0":          func(b *impl.Body) { b.Weights[4] = num(minusZ) },
		"a weight more":           func(b *impl.Body) { b.Weights = append(b.Weights, 0) },
		"a weight less":           func(b *impl.Body) { b.Weights = b.Weights[:5] },
		"another first end":       func(b *impl.Body) { b.Springs[0].A = 2 },
		"another second end":      func(b *impl.Body) { b.Springs[4].B = 1 },
		"a turned spring":         func(b *impl.Body) { b.Springs[1].A, b.Springs[1].B = 1, 3 },
		"a next Long":             func(b *impl.Body) { next(&b.Springs[3].Long) },
		"a Long of -0":            func(b *impl.Body) { b.Springs[2].Long = num(minusZ) },
		"a next Stiff":            func(b *impl.Body) { next(&b.Springs[3].Stiff) },
		"a spring more":           func(b *impl.Body) { b.Springs = append(b.Springs, b.Springs[4]) },
		"a spring less":           func(b *impl.Body) { b.Springs = b.Springs[:4] },
		"springs in other order":  func(b *impl.Body) { b.Springs[0], b.Springs[1] = b.Springs[1], b.Springs[0] },
		"exchanged Film and Bend": func(b *impl.Body) { b.Film, b.Bend = b.Bend, b.Film },
	}
	for what, change := range cases {
		b := changed(a, change)
		want(t, what, impl.SameBody(a, b), false)
		want(t, what+", turned", impl.SameBody(b, a), false)
		want(t, what+", itself", impl.SameBody(b, spareBody(b)), true)
	}
}

func TestSameBodyTakesNumbersAsTheyAreTold(t *testing.T) {
	odd := func(bits uint32) impl.Body {
		x := num(bits)
		return impl.Body{Mesh: meshOf(1), Springs: []impl.Spring{spring(0, 0, x, x)}, Film: x, Bend: x, Weights: []float32{x}, Fall: vec(x, x, x)}
	}
	want(t, "not-a-numbers", impl.SameBody(odd(nan), odd(0xffc00001)), true)
	want(t, "not-a-number and infinity", impl.SameBody(odd(nan), odd(inf)), false)
	want(t, "zeros", impl.SameBody(odd(0), odd(minusZ)), false)
	want(t, "the same zeros", impl.SameBody(odd(minusZ), odd(minusZ)), true)
	empty := impl.Body{Mesh: impl.Mesh{Places: []impl.Vector{}, Triangles: [][]int64{}}, Springs: []impl.Spring{}, Weights: []float32{}}
	want(t, "nil and empty", impl.SameBody(impl.Body{}, empty), true)
	want(t, "empty and nil", impl.SameBody(empty, impl.Body{}), true)
}

func TestBareBody(t *testing.T) {
	for i, m := range validMeshes() {
		bare, ok := impl.BareBody(m)
		wantOk(t, fmt.Sprintf("bare body of mesh %d", i), bare, ok, impl.Body{Mesh: m, Weights: make([]float32, len(m.Places))})
		want(t, "its validity", impl.ValidBody(bare), true)
		energy, ok := impl.EnergyOf(bare)
		if finiteMesh(m) {
			wantSum(t, fmt.Sprintf("energy of bare body %d", i), energy, ok, 0)
		}
	}
	for _, m := range invalidMeshes() {
		bare, ok := impl.BareBody(m)
		wantNone(t, "bare body of an invalid mesh", bare, ok)
	}
}

// finiteMesh reports whether the squares of all places are finite as well.
func finiteMesh(m impl.Mesh) bool {
	for _, p := range m.Places {
		if long := impl.LongOf(p); !(long < 1e9) {
			return false
		}
	}
	return true
}

func TestSpringEdges(t *testing.T) {
	m := impl.Mesh{
		Places:    []impl.Vector{vec(0, 0, 0), vec(3, 4, 0), vec(3, 4, 12), vec(1, 1, 0), vec(9, 9, 9)},
		Triangles: [][]int64{tri(2, 1, 0), tri(0, 3, 1)},
	}
	for _, stiff := range nums(0x40400000, 0, minusZ, 0xbf800000, inf, negInf, nan) {
		b, ok := impl.SpringEdges(m, stiff)
		expected := bodyOf(m, spring(0, 1, 5, stiff), spring(0, 2, 13, stiff), spring(0, 3, num(0x3fb504f3), stiff),
			spring(1, 2, 12, stiff), spring(1, 3, num(0x4066c15a), stiff))
		wantOk(t, told("stiff", stiff), b, ok, expected)
	}
	for _, m := range invalidMeshes() {
		b, ok := impl.SpringEdges(m, 1)
		wantNone(t, "springs of an invalid mesh", b, ok)
	}
}

// TestSpringEdgesOfAllMeshes computes each length from chapter 1.
func TestSpringEdgesOfAllMeshes(t *testing.T) {
	for i, m := range validMeshes() {
		what := fmt.Sprintf("springs of mesh %d", i)
		expected := bodyOf(m)
		edges, _ := countedEdges(m)
		valid := len(edges) <= 200
		for _, e := range edges {
			long := impl.LongOf(impl.LessVectors(m.Places[e[0]], m.Places[e[1]]))
			valid = valid && long >= 0
			expected.Springs = append(expected.Springs, spring(e[0], e[1], long, 0.5))
		}
		b, ok := impl.SpringEdges(m, 0.5)
		if !valid {
			wantNone(t, what, b, ok)
			continue
		}
		wantOk(t, what, b, ok, expected)
		want(t, what+", validity", impl.ValidBody(b), true)
		parts, ok := impl.PartsOf(b)
		if finiteMesh(m) {
			wantOk(t, what+", parts", parts, ok, []float32{0, 0, 0, 0})
		}
	}
}

func TestSpringEdgesHasALimit(t *testing.T) {
	// A fan of 62 triangles has 125 edges; of the others, the first has 3 edges more, and each next one 2.
	mesh := func(others int, more ...[]int64) impl.Mesh {
		m := fan(62)
		for i := range int64(others) {
			m.Triangles = append(m.Triangles, tri(2, 3+i, 4+i))
		}
		m.Triangles = append(m.Triangles, more...)
		return m
	}
	cases := []struct {
		m     impl.Mesh
		edges int
	}{{mesh(36, tri(2, 3, 5)), 199}, {mesh(37), 200}, {mesh(37, tri(2, 3, 5)), 201}, {mesh(38), 202}, {mesh(60, tri(2, 3, 5)), 247}}
	for _, c := range cases {
		edges, _ := countedEdges(c.m)
		want(t, "edges", len(edges), c.edges)
		b, ok := impl.SpringEdges(c.m, 1)
		if c.edges > 200 {
			wantNone(t, fmt.Sprintf("%d edges", c.edges), b, ok)
		} else {
			wantOk(t, fmt.Sprintf("springs of %d edges", c.edges), len(b.Springs), ok, c.edges)
		}
	}
}

func TestSpringEdgesOfPlacesThatAreNotFinite(t *testing.T) {
	m := meshOf(3, tri(0, 1, 2))
	m.Places[0].X = num(inf)
	b, ok := impl.SpringEdges(m, 1)
	wantOk(t, "infinite lengths", b, ok, bodyOf(m, spring(0, 1, num(inf), 1), spring(0, 2, num(inf), 1), spring(1, 2, impl.LongOf(vec(1, 3, 7)), 1)))
	m.Places[1].X = num(inf)
	b, ok = impl.SpringEdges(m, 1)
	wantNone(t, "lengths that are not-a-numbers", b, ok)
	m.Places[0], m.Places[1] = vec(num(nan), 0, 0), vec(1, 1, 1)
	b, ok = impl.SpringEdges(m, 1)
	wantNone(t, "places that are not-a-numbers", b, ok)
	m.Places = []impl.Vector{{}, {}, {}}
	b, ok = impl.SpringEdges(m, 1)
	wantOk(t, "no lengths", b, ok, bodyOf(m, spring(0, 1, 0, 1), spring(0, 2, 0, 1), spring(1, 2, 0, 1)))
	m = meshOf(3)
	m.Places[0].X = num(nan)
	b, ok = impl.SpringEdges(m, 1)
	wantOk(t, "a place without edges", b, ok, bodyOf(m))
}

func TestMovePlaces(t *testing.T) {
	b := mixedBody()
	by := []impl.Vector{vec(1, 0, 0), vec(0, 1, 0), vec(0, 0, 1), vec(1, 1, 1), vec(num(minusZ), 4, -4), vec(num(inf), num(nan), num(negInf))}
	b.Mesh.Places[4] = vec(num(minusZ), 0, 1)
	moved, ok := impl.MovePlaces(b, by, 0.5)
	expected := changed(b, func(b *impl.Body) {
		b.Mesh.Places[0].X = 0.6
		b.Mesh.Places[1].Y = num(0x3dcccccc) // the next number below 0.1, as -0.4 is rounded
		b.Mesh.Places[2].Z = num(0xbdccccd0)
		b.Mesh.Places[3] = vec(num(0xbf19999a), 1.3, 1.4)
		b.Mesh.Places[4] = vec(num(minusZ), 2, -1)
		b.Mesh.Places[5] = vec(num(inf), num(nan), num(negInf))
	})
	wantOk(t, "moved", moved, ok, expected)
	for _, share := range oddNumbers() {
		moved, ok := impl.MovePlaces(b, by, share)
		expected := changed(b, func(b *impl.Body) {
			for i, p := range b.Mesh.Places {
				b.Mesh.Places[i] = vectorOf(pointOf(p).plus(pointOf(by[i]).times(float64(share))))
			}
		})
		wantOk(t, told("moved with the share", share), moved, ok, expected)
	}
}

func TestMovePlacesAlongForcesToTheLastBit(t *testing.T) {
	b := mixedBody()
	forces, _ := impl.ForcesOf(b)
	moved, ok := impl.MovePlaces(b, forces, 0.05)
	wantVectors(t, "moved places", moved.Mesh.Places, ok, vectorsOfBits(
		0x3e47af45, 0x3d47b80c, 0x3cfe3ff0, 0x3fa12f80, 0xbe9656a2, 0x3f1a1636, 0x3f327598, 0x3fe7b677, 0xbf3ae499,
		0xbf87e322, 0x3f4e01b6, 0x3ea357d6, 0x400a0783, 0x3fad16b9, 0x3fcdb2c4, 0x3f1064b9, 0xbf858caa, 0xbf5ba19c))
	want(t, "all but the places", changed(moved, func(c *impl.Body) { c.Mesh.Places = b.Mesh.Places }), b)
}

// vectorsOfBits makes a vector of each three numbers.
func vectorsOfBits(bits ...uint32) []impl.Vector {
	var list []impl.Vector
	for i := 0; i < len(bits); i += 3 {
		list = append(list, vec(num(bits[i]), num(bits[i+1]), num(bits[i+2])))
	}
	return list
}

func TestMovePlacesTakesAVectorForEachPlace(t *testing.T) {
	for _, places := range []int{0, 1, 2, 63, 64} {
		for _, vectors := range []int{0, 1, 2, 3, 63, 64, 65, 300} {
			b := bodyOf(meshOf(places))
			moved, ok := impl.MovePlaces(b, make([]impl.Vector, vectors), 1)
			what := fmt.Sprintf("%d places by %d vectors", places, vectors)
			if places == vectors {
				wantOk(t, what, moved, ok, b)
			} else {
				wantNone(t, what, moved, ok)
			}
		}
	}
	for _, b := range invalidBodies() {
		moved, ok := impl.MovePlaces(b, make([]impl.Vector, len(b.Mesh.Places)), 0)
		wantNone(t, "an invalid body", moved, ok)
	}
}

func TestStretchesOf(t *testing.T) {
	m := impl.Mesh{Places: []impl.Vector{vec(0, 0, 0), vec(3, 4, 0), vec(3, 4, 0), vec(1e30, 0, 0), vec(num(nan), 0, 0)}}
	b := bodyOf(m, spring(0, 1, 2, 1), spring(1, 0, 10, num(nan)), spring(1, 2, 1, 1), spring(0, 1, 3, 0), spring(0, 1, 0, 1),
		spring(0, 1, num(minusZ), 1), spring(1, 2, 0, 1), spring(0, 1, num(inf), 1), spring(3, 1, 1, 1), spring(3, 1, num(inf), 1), spring(4, 1, 1, 1))
	stretches, ok := impl.StretchesOf(b)
	wantOk(t, "stretches", stretches, ok, nums(0x40200000, 0x3f000000, 0, 0x3fd55555, inf, negInf, nan, 0, inf, nan, nan))
	stretches, ok = impl.StretchesOf(mixedBody())
	wantOk(t, "stretches to the last bit", stretches, ok, nums(0x3fc0eb6b, 0x3f8ae6f2, 0x7f800000, 0x40285b93, 0x3f711c11))
	stretches, ok = impl.StretchesOf(bodyOf(meshOf(64)))
	wantOk(t, "no stretches", stretches, ok, nil)
	for _, b := range invalidBodies() {
		stretches, ok := impl.StretchesOf(b)
		wantNone(t, "an invalid body", stretches, ok)
	}
	for i, b := range append(anyBodies(), oddBodies()...) {
		var expected []float32
		for _, s := range b.Springs {
			d, _ := slowPull(b, s)
			expected = append(expected, float32(d.long()/float64(s.Long)))
		}
		stretches, ok := impl.StretchesOf(b)
		wantOk(t, fmt.Sprintf("stretches of body %d", i), stretches, ok, expected)
	}
}

func TestStretchesOfRestingSprings(t *testing.T) {
	for i, m := range forms() {
		b, ok := impl.SpringEdges(m, 1)
		if !ok {
			continue
		}
		for j, stretch := range first(impl.StretchesOf(b)) {
			wantNumber(t, fmt.Sprintf("form %d, stretch %d", i, j), stretch, 1)
		}
		doubled, _ := impl.ScaleMesh(m, 2)
		b.Mesh = doubled
		for j, stretch := range first(impl.StretchesOf(b)) {
			wantNumber(t, fmt.Sprintf("form %d doubled, stretch %d", i, j), stretch, 2)
		}
	}
	b := bodyOf(meshOf(2), spring(0, 1, math.MaxFloat32, 1))
	b.Mesh.Places[1] = vec(math.MaxFloat32, 0, 0)
	stretches, ok := impl.StretchesOf(b)
	wantOk(t, "a length whose square is too great", stretches, ok, nums(inf))
}
