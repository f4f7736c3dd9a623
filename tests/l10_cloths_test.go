package tests

import (
	"math"
	"testing"

	"loop.example/g01222/impl"
)

func TestValidCloth(t *testing.T) {
	for i, c := range validCloths() {
		want(t, named("valid cloth", i), impl.ValidCloth(c), true)
	}
	for i, c := range invalidCloths() {
		want(t, named("invalid cloth", i), impl.ValidCloth(c), false)
	}
	empty := impl.Cloth{Places: []impl.Vector{}, Olds: []impl.Vector{}, Threads: []impl.Thread{}, Pinned: []int64{}}
	want(t, "an empty cloth", impl.ValidCloth(empty), true)
}

func TestLimitsOfClothsCanBeReached(t *testing.T) {
	want(t, "MaxThreads", impl.MaxThreads, 256)
	for _, places := range []int{63, 64, 65} {
		for _, olds := range []int{62, 63, 64, 65, 66} {
			for _, threads := range []int{0, 255, 256, 257} {
				c := impl.Cloth{Places: meshOf(places).Places, Olds: meshOf(olds).Places, Threads: repeat(thread(62, 5, 1), threads)}
				allowed := places <= 64 && olds == places && threads <= 256
				what := told(places, "places", olds, "Olds", threads, "threads")
				want(t, what, impl.ValidCloth(c), allowed)
				relaxed, ok := impl.RelaxCloth(c, 1)
				if allowed {
					wantCloth(t, what, relaxed, ok, slowRelaxed(c, 1))
				} else {
					wantNone(t, what, relaxed, ok)
				}
			}
		}
	}
}

func TestThreadsJoinTwoDifferentPlaces(t *testing.T) {
	places := meshOf(5).Places
	for a := int64(-2); a < 8; a++ {
		for b := int64(-2); b < 8; b++ {
			allowed := a >= 0 && a < 5 && b >= 0 && b < 5 && a != b
			want(t, told("thread", a, b), impl.ValidCloth(clothAt(places, thread(a, b, 1))), allowed)
		}
	}
	for _, long := range oddNumbers() {
		want(t, told("long", long), impl.ValidCloth(clothAt(places, thread(0, 4, long))), isLength(long))
	}
}

func TestPlacesOfClothsAreAnyVectors(t *testing.T) {
	for _, x := range oddNumbers() {
		for _, v := range []impl.Vector{vec(x, 0, 0), vec(0, x, 0), vec(0, 0, x), vec(x, x, x)} {
			c := threadAt(v, vec(1, 2, 3), 1, 0)
			want(t, told("place", v), impl.ValidCloth(c), true)
			c.Olds[1] = v
			want(t, told("Old", v), impl.ValidCloth(c), true)
		}
	}
}

func TestSameCloth(t *testing.T) {
	cloths := append(append(validCloths()[:60], oddCloths()[:40]...), invalidCloths()...)
	texts := make([]string, len(cloths))
	for i, c := range cloths {
		texts[i] = told(c)
	}
	for i, a := range cloths {
		for j, b := range cloths {
			want(t, told("cloths", i, j), impl.SameCloth(a, b), texts[i] == texts[j])
		}
		want(t, named("a copy of cloth", i), impl.SameCloth(a, spareCloth(a)), true)
	}
}

func TestSameClothComparesTheSmallestDifference(t *testing.T) {
	next := func(x *float32) { *x = num(bitsOf(*x) + 1) }
	a := mixedCloth(1, 4)
	a.Places[5].X, a.Olds[5].Z = 0, 0
	cases := map[string]func(c *impl.Cloth){
		"a next X of a place":       func(c *impl.Cloth) { next(&c.Places[4].X) },
		"a next Y of a place":       func(c *impl.Cloth) { next(&c.Places[4].Y) },
		"a next Z of a place":       func(c *impl.Cloth) { next(&c.Places[4].Z) },
		"a place at -0":             func(c *impl.Cloth) { c.Places[5].X = num(minusZ) },
		"a place more":              func(c *impl.Cloth) { c.Places = append(c.Places, c.Places[0]) },
		"a place less":              func(c *impl.Cloth) { c.Places = c.Places[:5] },
		"a next X of an Old":        func(c *impl.Cloth) { next(&c.Olds[3].X) },
		"a next Y of an Old":        func(c *impl.Cloth) { next(&c.Olds[3].Y) },
		"a next Z of an Old":        func(c *impl.Cloth) { next(&c.Olds[3].Z) },
		"an Old at -0":              func(c *impl.Cloth) { c.Olds[5].Z = num(minusZ) },
		"an Old more":               func(c *impl.Cloth) { c.Olds = append(c.Olds, c.Olds[0]) },
		"an Old less":               func(c *impl.Cloth) { c.Olds = c.Olds[:5] },
		"exchanged places and Olds": func(c *impl.Cloth) { c.Places, c.Olds = c.Olds, c.Places },
		"another A":                 func(c *impl.Cloth) { c.Threads[0].A = 2 },
		"another B":                 func(c *impl.Cloth) { c.Threads[7].B = 2 },
		"a turned thread":           func(c *impl.Cloth) { c.Threads[2].A, c.Threads[2].B = 1, 3 },
		"a next Long":               func(c *impl.Cloth) { next(&c.Threads[6].Long) },
		"a thread more":             func(c *impl.Cloth) { c.Threads = append(c.Threads, c.Threads[7]) },
		"a thread less":             func(c *impl.Cloth) { c.Threads = c.Threads[:7] },
		"threads in other order":    func(c *impl.Cloth) { c.Threads[0], c.Threads[7] = c.Threads[7], c.Threads[0] },
		"another pin":               func(c *impl.Cloth) { c.Pinned[0] = 0 },
		"a pin more":                func(c *impl.Cloth) { c.Pinned = append(c.Pinned, 5) },
		"a pin less":                func(c *impl.Cloth) { c.Pinned = c.Pinned[:1] },
		"no pins":                   func(c *impl.Cloth) { c.Pinned = nil },
	}
	for what, change := range cases {
		b := changedCloth(a, change)
		want(t, what, impl.SameCloth(a, b), false)
		want(t, what+", turned", impl.SameCloth(b, a), false)
		want(t, what+", itself", impl.SameCloth(b, spareCloth(b)), true)
	}
}

func TestSameClothTakesNumbersAsTheyAreTold(t *testing.T) {
	odd := func(bits uint32) []impl.Cloth {
		x := num(bits)
		return []impl.Cloth{{Places: []impl.Vector{vec(0, x, 1)}}, {Olds: []impl.Vector{vec(x, 1, 0)}}, {Threads: []impl.Thread{thread(0, 0, x)}}}
	}
	for i := range 3 {
		want(t, told("not-a-numbers", i), impl.SameCloth(odd(nan)[i], odd(0xffc00001)[i]), true)
		want(t, told("not-a-number and infinity", i), impl.SameCloth(odd(nan)[i], odd(inf)[i]), false)
		want(t, told("zeros", i), impl.SameCloth(odd(0)[i], odd(minusZ)[i]), false)
		want(t, told("the same zeros", i), impl.SameCloth(odd(minusZ)[i], odd(minusZ)[i]), true)
	}
	empty := impl.Cloth{Places: []impl.Vector{}, Olds: []impl.Vector{}, Threads: []impl.Thread{}, Pinned: []int64{}}
	want(t, "nil and empty", impl.SameCloth(impl.Cloth{}, empty), true)
	want(t, "empty and nil", impl.SameCloth(empty, impl.Cloth{}), true)
}

func TestGridCloth(t *testing.T) {
	c, ok := impl.GridCloth(2, 1, 0.5)
	wantCloth(t, "two cells", c, ok, clothAt(
		[]impl.Vector{vec(0, 0, 0), vec(0.5, 0, 0), vec(1, 0, 0), vec(0, 0.5, 0), vec(0.5, 0.5, 0), vec(1, 0.5, 0)},
		thread(0, 1, 0.5), thread(0, 3, 0.5), thread(1, 2, 0.5), thread(1, 4, 0.5), thread(2, 5, 0.5), thread(3, 4, 0.5), thread(4, 5, 0.5)))
	c, ok = impl.GridCloth(1, 2, 3)
	wantCloth(t, "two rows", c, ok, clothAt(
		[]impl.Vector{vec(0, 0, 0), vec(3, 0, 0), vec(0, 3, 0), vec(3, 3, 0), vec(0, 6, 0), vec(3, 6, 0)},
		thread(0, 1, 3), thread(0, 2, 3), thread(1, 3, 3), thread(2, 3, 3), thread(2, 4, 3), thread(3, 5, 3), thread(4, 5, 3)))
}

// slowGrid makes a grid row by row.
func slowGrid(wide, high int64, step float32) impl.Cloth {
	var c impl.Cloth
	for y := range high + 1 {
		for x := range wide + 1 {
			at := int64(len(c.Places))
			place := vec(float32(rounded(float64(x)*float64(step))), float32(rounded(float64(y)*float64(step))), 0)
			c.Places, c.Olds = append(c.Places, place), append(c.Olds, place)
			if x < wide {
				c.Threads = append(c.Threads, thread(at, at+1, step))
			}
			if y < high {
				c.Threads = append(c.Threads, thread(at, at+wide+1, step))
			}
		}
	}
	return c
}

func TestGridClothOfAllSizes(t *testing.T) {
	steps := append(oddNumbers(), 0.1, 1e20, 3e38)
	for wide := int64(1); wide < 66; wide++ {
		for high := int64(1); high < 66; high++ {
			step := steps[int(wide*7+high)%len(steps)]
			c, ok := impl.GridCloth(wide, high, step)
			what := told("cloth", wide, high, step)
			if (wide+1)*(high+1) > 64 || !isLength(step) {
				wantNone(t, what, c, ok)
				continue
			}
			wantCloth(t, what, c, ok, slowGrid(wide, high, step))
			want(t, what+", validity", impl.ValidCloth(c), true)
			m, _ := impl.GridMesh(wide, high, step)
			wantOk(t, what+", places", c.Places, ok, m.Places)
		}
	}
}

func TestGridClothFails(t *testing.T) {
	for _, n := range []int64{0, -1, -7, math.MinInt64, math.MinInt64 + 1, 64, 1 << 32, 1<<32 + 1, math.MaxInt64 - 1, math.MaxInt64} {
		for _, m := range []int64{1, 2, 7, -1, 0, n} {
			c, ok := impl.GridCloth(n, m, 1)
			wantNone(t, told("cloth", n, m), c, ok)
			c, ok = impl.GridCloth(m, n, 1)
			wantNone(t, told("cloth", m, n), c, ok)
		}
	}
	for _, step := range badSteps() {
		c, ok := impl.GridCloth(2, 2, step)
		wantNone(t, told("step", step), c, ok)
	}
}

func TestClothOf(t *testing.T) {
	m := impl.Mesh{
		Places:    []impl.Vector{vec(0, 0, 0), vec(3, 4, 0), vec(3, 4, 12), vec(1, 1, 0), vec(9, 9, num(nan))},
		Triangles: [][]int64{tri(2, 1, 0), tri(0, 3, 1)},
	}
	c, ok := impl.ClothOf(m)
	wantCloth(t, "two triangles", c, ok, clothAt(m.Places,
		thread(0, 1, 5), thread(0, 2, 13), thread(0, 3, num(0x3fb504f3)), thread(1, 2, 12), thread(1, 3, num(0x4066c15a))))
	c, ok = impl.ClothOf(impl.Mesh{})
	wantCloth(t, "no places", c, ok, impl.Cloth{})
	c, ok = impl.ClothOf(meshOf(64))
	wantCloth(t, "no triangles", c, ok, looseCloth(64))
	for i, m := range invalidMeshes() {
		c, ok := impl.ClothOf(m)
		wantNone(t, named("cloth of the invalid mesh", i), c, ok)
	}
}

// slowCloth finds the edges pair by pair, and tells whether there is such a cloth.
func slowCloth(m impl.Mesh) (impl.Cloth, bool) {
	edges, _ := countedEdges(m)
	c, valid := clothAt(m.Places), len(edges) <= 256
	for _, e := range edges {
		long := float32(slowLong(m, e[0], e[1]))
		valid = valid && isLength(long)
		c.Threads = append(c.Threads, thread(e[0], e[1], long))
	}
	return c, valid
}

func wantClothOf(t *testing.T, what string, m impl.Mesh) {
	t.Helper()
	c, ok := impl.ClothOf(m)
	if expected, exists := slowCloth(m); exists {
		wantCloth(t, what, c, ok, expected)
		want(t, what+", validity", impl.ValidCloth(c), true)
	} else {
		wantNone(t, what, c, ok)
	}
}

func TestClothOfAllMeshes(t *testing.T) {
	for i, m := range append(append(validMeshes(), forms()...), oddMeshes()...) {
		wantClothOf(t, named("cloth of mesh", i), m)
	}
}

func TestMeshesWithTooManyEdges(t *testing.T) {
	// A fan of 62 triangles has 125 edges; the others have 121 more, and the last ones 3 or 1 each.
	m := fan(62)
	for i := range int64(60) {
		m.Triangles = append(m.Triangles, tri(2, 3+i, 4+i))
	}
	m.Triangles = append(m.Triangles, tri(3, 6, 9), tri(4, 7, 10), tri(5, 8, 11))
	for i, triangle := range [][]int64{tri(2, 3, 5), tri(2, 4, 6)} {
		m.Triangles = append(m.Triangles, triangle)
		edges, _ := countedEdges(m)
		want(t, "edges", len(edges), 256+i)
		c, ok := impl.ClothOf(m)
		want(t, told("cloth of", 256+i, "edges"), ok, i == 0)
		want(t, told("threads of", 256+i, "edges"), len(c.Threads), 256*(1-i))
		wantClothOf(t, told("cloth of", 256+i, "edges"), m)
	}
}

func TestMeshesWithOtherEdgesThanThreads(t *testing.T) {
	for _, x := range oddNumbers() {
		for axis := range 3 {
			at := [3]float32{}
			at[axis] = x
			m := meshOf(4, tri(0, 1, 2))
			m.Places[0] = vec(at[0], at[1], at[2])
			wantClothOf(t, told("a corner at", at), m)
			m.Places[3], m.Places[0] = m.Places[0], vec(0, 0, 1)
			c, ok := impl.ClothOf(m)
			wantOk(t, told("no corner at", at), len(c.Threads), ok, 3)
		}
	}
	o, x, y := vec(0, 0, 0), vec(1, 0, 0), vec(0, 1, 0)
	for what, places := range map[string][]impl.Vector{
		"the same places":           {o, o, x},
		"zeros with another sign":   {o, vec(num(minusZ), 0, 0), x},
		"a square that is +0":       {o, vec(1e-30, 0, 0), x},
		"a square that is infinite": {o, vec(1e20, 0, 0), x},
		"an infinity":               {o, x, vec(0, num(negInf), 0)},
		"a not-a-number":            {o, x, vec(0, 0, num(nan))},
	} {
		c, ok := impl.ClothOf(impl.Mesh{Places: places, Triangles: [][]int64{tri(0, 1, 2)}})
		wantNone(t, what, c, ok)
	}
	// The greatest difference whose square is +0, and the next one.
	short := impl.Mesh{Places: []impl.Vector{x, o, y, vec(num(0x1a000000), 0, 0)}, Triangles: [][]int64{tri(0, 1, 2), tri(1, 3, 2)}}
	c, ok := impl.ClothOf(short)
	wantNone(t, "too short an edge", c, ok)
	short.Places[3].X = num(0x1a000001)
	c, ok = impl.ClothOf(short)
	wantOk(t, "a short edge", c.Threads, ok, []impl.Thread{thread(0, 1, 1), thread(0, 2, num(0x3fb504f3)), thread(1, 2, 1), thread(1, 3, num(0x1a3504f3)), thread(2, 3, 1)})
}

func TestPinCloth(t *testing.T) {
	for i, c := range validCloths() {
		d := dice(i)
		for _, oneIn := range []int{1, 2, 6} {
			pinned := d.pins(len(c.Places), oneIn)
			next, ok := impl.PinCloth(c, pinned)
			wantCloth(t, told("cloth", i, "with the pins", pinned), next, ok, pinnedAt(c, pinned...))
		}
	}
	for _, pinned := range [][]int64{
		{6}, {0, 6}, {64}, {256}, {1 << 32}, {1<<32 + 1}, {math.MaxInt64}, {-1}, {-1, 0}, {3, -1}, {math.MinInt64}, {math.MinInt64, 0},
		{0, 0}, {5, 5}, {1, 0}, {0, 2, 2}, {0, 3, 1, 5}, {0, 1, 2, 3, 4, 5, 6}, repeat[int64](2, 6), repeat[int64](0, 5000),
	} {
		next, ok := impl.PinCloth(mixedCloth(1, 4), pinned)
		wantNone(t, told("pins", pinned), next, ok)
	}
	next, ok := impl.PinCloth(impl.Cloth{}, []int64{0})
	wantNone(t, "pins of no places", next, ok)
	// Not even a cloth of which just the pins are not valid can be pinned.
	for i, c := range invalidCloths() {
		for _, pinned := range [][]int64{nil, {0}, c.Pinned} {
			next, ok := impl.PinCloth(c, pinned)
			wantNone(t, told("pins", pinned, "of the invalid cloth", i), next, ok)
		}
	}
}

// TestMoveCloth moves pinned places as well, as they are the places of the cloth.
func TestMoveCloth(t *testing.T) {
	odd := oddNumbers()
	for i, c := range validCloths() {
		for _, by := range []impl.Vector{{}, vec(0.1, -0.2, 7), vec(odd[i%len(odd)], num(minusZ), odd[(i+11)%len(odd)])} {
			moved, ok := impl.MoveCloth(c, by)
			wantCloth(t, told("cloth", i, "moved by", by), moved, ok, changedCloth(c, func(c *impl.Cloth) {
				for i := range c.Places {
					c.Places[i] = vectorOf(pointOf(c.Places[i]).plus(pointOf(by)))
					c.Olds[i] = vectorOf(pointOf(c.Olds[i]).plus(pointOf(by)))
				}
			}))
		}
	}
	c := threadAt(vec(1, 2, num(minusZ)), vec(num(inf), 1e8, 0), 1, 0)
	c.Olds[1] = vec(4, 5, 6)
	moved, ok := impl.MoveCloth(c, vec(1, -1, 0))
	want(t, "moved places", moved.Places, []impl.Vector{vec(2, 1, 0), vec(num(inf), 1e8, 0)})
	want(t, "moved Olds", moved.Olds, []impl.Vector{vec(2, 1, 0), vec(5, 4, 6)})
	wantOk(t, "pins", moved.Pinned, ok, []int64{0})
}
