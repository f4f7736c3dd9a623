package tests

import (
	"math"
	"testing"

	"loop.example/g01222/impl"
)

func thread(a, b int64, long float32) impl.Thread { return impl.Thread{A: a, B: b, Long: long} }

// clothAt makes a cloth that has not moved yet.
func clothAt(places []impl.Vector, threads ...impl.Thread) impl.Cloth {
	return impl.Cloth{Places: places, Olds: append([]impl.Vector{}, places...), Threads: threads}
}

// looseCloth makes a cloth without threads and pins.
func looseCloth(places int) impl.Cloth { return clothAt(meshOf(places).Places) }

// threadAt makes a cloth of one thread.
func threadAt(a, b impl.Vector, long float32, pinned ...int64) impl.Cloth {
	return pinnedAt(clothAt([]impl.Vector{a, b}, thread(0, 1, long)), pinned...)
}

// pinnedAt returns a cloth with other pins, without the program.
func pinnedAt(c impl.Cloth, pinned ...int64) impl.Cloth {
	c.Pinned = pinned
	return c
}

// spareCloth copies a cloth so that each of its lists has unused capacity.
func spareCloth(c impl.Cloth) impl.Cloth {
	return impl.Cloth{
		Places:  spareList(c.Places),
		Olds:    spareList(c.Olds),
		Threads: append(make([]impl.Thread, 0, len(c.Threads)+3), c.Threads...),
		Pinned:  append(make([]int64, 0, len(c.Pinned)+3), c.Pinned...),
	}
}

// wholeCloth tells a cloth with all that its lists could hold.
func wholeCloth(c impl.Cloth) string {
	return told(c.Places[:cap(c.Places)], c.Olds[:cap(c.Olds)], c.Threads[:cap(c.Threads)], c.Pinned[:cap(c.Pinned)])
}

// changedCloth returns a cloth after a change of its own lists.
func changedCloth(c impl.Cloth, change func(c *impl.Cloth)) impl.Cloth {
	c = spareCloth(c)
	change(&c)
	return c
}

// withPlaces returns a cloth with other places, the first ones of all.
func withPlaces(c impl.Cloth, places ...impl.Vector) impl.Cloth {
	return changedCloth(c, func(c *impl.Cloth) { copy(c.Places, places) })
}

// mixedCloth has threads that are too long, too short, and twice between the same places.
func mixedCloth(pinned ...int64) impl.Cloth {
	return impl.Cloth{
		Places: []impl.Vector{
			vec(0.1, 0.2, 0.3), vec(1.3, -0.4, 0.5), vec(0.7, 1.9, -0.6), vec(-1.1, 0.8, 0.9), vec(2.2, 1.4, 1.7), vec(0.6, -1.2, -0.8),
		},
		Olds: []impl.Vector{
			vec(0.2, 0.1, 0.25), vec(1.1, -0.3, 0.7), vec(0.7, 2.1, -0.5), vec(-1.3, 0.6, 1.1), vec(2, 1.5, 1.6), vec(0.5, -1.1, -1),
		},
		Threads: []impl.Thread{
			thread(0, 1, 0.9), thread(1, 4, 1.5), thread(3, 1, 2.5), thread(5, 0, 0.7),
			thread(4, 5, 1.9), thread(2, 5, 3.3), thread(2, 3, 0.4), thread(0, 1, 0.25),
		},
		Pinned: pinned,
	}
}

// sail is a grid as large as allowed, which has begun to swing.
func sail() impl.Cloth {
	c, _ := impl.GridCloth(7, 7, 0.2)
	d := dice(61)
	for i, place := range c.Places {
		c.Places[i] = vectorOf(pointOf(place).plus(pointOf(d.vector()).times(0.02)))
	}
	return c
}

// thicket has as many places and threads as allowed.
func thicket() impl.Cloth {
	d := dice(62)
	c := clothAt(d.list(64, d.number))
	for len(c.Threads) < 256 {
		a := d.below(64)
		c.Threads = append(c.Threads, thread(int64(a), int64((a+1+d.below(63))%64), 1+float32(d.below(5))))
	}
	return c
}

// cloth returns one with any threads, in which number makes all numbers but lengths that would not be valid.
func (d *dice) cloth(number func() float32) impl.Cloth {
	n := 2 + d.below(8)
	c := impl.Cloth{Places: d.list(n, number), Olds: d.list(n, number)}
	for range d.below(16) {
		a := d.below(n)
		long := number()
		if !isLength(long) {
			long = 1.5
		}
		c.Threads = append(c.Threads, thread(int64(a), int64((a+1+d.below(n-1))%n), long))
	}
	c.Pinned = d.pins(n, 1+d.below(6))
	return c
}

// pins returns a set of about one in so many of n places, or of none of them.
func (d *dice) pins(n, oneIn int) []int64 {
	var list []int64
	for place := range int64(n) {
		if oneIn < 6 && d.below(oneIn) == 0 {
			list = append(list, place)
		}
	}
	return list
}

// usualCloths have numbers of usual size.
func usualCloths() []impl.Cloth {
	d := dice(63)
	list := []impl.Cloth{{}, looseCloth(1), mixedCloth(), mixedCloth(1, 4), mixedCloth(0, 1, 2, 3, 4, 5), sail(), thicket()}
	list = append(list, pinnedAt(sail(), 0, 7), pinnedAt(thicket(), d.pins(64, 3)...), pinnedAt(thicket(), d.pins(64, 1)...))
	for range 200 {
		list = append(list, d.cloth(d.number))
	}
	return list
}

// oddCloths have numbers of all kinds, some of them many and some few.
func oddCloths() []impl.Cloth {
	d := dice(64)
	odd := oddNumbers()
	var list []impl.Cloth
	for i := range 400 {
		list = append(list, d.cloth(func() float32 {
			switch d.below(1 + i%20) {
			case 0:
				return odd[d.below(len(odd))]
			case 1:
				return num(uint32(d.below(2)) << 31)
			}
			return d.number()
		}))
	}
	return list
}

// stillCloths are cloths of meshes, and of grids.
func stillCloths() []impl.Cloth {
	var list []impl.Cloth
	for _, m := range forms() {
		if c, ok := impl.ClothOf(m); ok {
			list = append(list, c)
		}
	}
	for _, wide := range []int64{1, 2, 5, 7} {
		c, _ := impl.GridCloth(wide, 3, 0.5)
		list = append(list, c, pinnedAt(c, 0, wide))
	}
	return list
}

func validCloths() []impl.Cloth {
	return append(append(usualCloths(), stillCloths()...), oddCloths()...)
}

// invalidCloths break one rule each.
func invalidCloths() []impl.Cloth {
	o, x := vec(0, 0, 0), vec(1, 0, 0)
	two := func(threads ...impl.Thread) impl.Cloth { return clothAt([]impl.Vector{o, x}, threads...) }
	list := []impl.Cloth{
		looseCloth(65), looseCloth(1000), pinnedAt(looseCloth(65), 0), {Olds: []impl.Vector{o}}, {Places: []impl.Vector{o}},
		{Places: []impl.Vector{o, x}, Olds: []impl.Vector{o}}, {Places: []impl.Vector{o, x}, Olds: []impl.Vector{o, x, x}},
		{Places: meshOf(64).Places, Olds: meshOf(63).Places}, {Places: meshOf(64).Places, Olds: meshOf(65).Places},
		{Places: meshOf(65).Places, Olds: meshOf(64).Places}, {Places: []impl.Vector{o, x}, Threads: []impl.Thread{thread(0, 1, 1)}},
		two(repeat(thread(0, 1, 1), 257)...), two(repeat(thread(1, 0, 1), 5000)...), clothAt(meshOf(64).Places, repeat(thread(63, 0, 1), 257)...),
		{Threads: []impl.Thread{thread(0, 1, 1)}}, {Threads: []impl.Thread{{}}}, clothAt([]impl.Vector{o}, thread(0, 0, 1)),
		two(thread(0, 0, 1)), two(thread(1, 1, 1)), two(thread(0, 1, 1), thread(1, 1, 1)), two(thread(0, 0, 1), thread(0, 1, 1)),
	}
	for _, place := range []int64{-1, 2, 3, 64, 256, 1 << 32, 1<<32 + 1, math.MinInt64, math.MaxInt64} {
		list = append(list, two(thread(0, place, 1)), two(thread(place, 1, 1)), two(thread(place, place, 1)))
		list = append(list, pinnedAt(two(), place), pinnedAt(two(), 0, place), pinnedAt(two(), 0, 1, place), pinnedAt(two(), place, 0))
	}
	for _, long := range badSteps() {
		list = append(list, two(thread(0, 1, long)), two(thread(0, 1, 1), thread(1, 0, long)), two(thread(0, 1, long), thread(0, 1, 1)))
	}
	for _, pinned := range [][]int64{{0, 0}, {5, 5}, {1, 0}, {5, 3}, {0, 2, 2}, {0, 3, 1, 5}, {6}, {0, 1, 2, 3, 4, 5, 6}, {0, 1, 2, 3, 4, 5, 5}} {
		list = append(list, mixedCloth(pinned...))
	}
	return append(list, pinnedAt(impl.Cloth{}, 0), pinnedAt(impl.Cloth{}, -1), pinnedAt(looseCloth(64), 64), pinnedAt(looseCloth(64), repeat[int64](0, 5000)...))
}

// blow tells what a step is made with.
type blow struct {
	fall   impl.Vector
	keep   float32
	rounds int64
	centre impl.Vector
	radius float32
}

func (b blow) step(c impl.Cloth) (impl.Cloth, bool) {
	return impl.StepCloth(c, b.fall, b.keep, b.rounds, b.centre, b.radius)
}

func (b blow) run(c impl.Cloth, steps int64) (impl.Cloth, bool) {
	return impl.RunCloth(c, b.fall, b.keep, b.rounds, b.centre, b.radius, steps)
}

// mixedBlow has numbers that are rounded in each step.
func mixedBlow() blow {
	return blow{fall: vec(0.1, -0.2, -0.98), keep: 0.9, rounds: 3, centre: vec(0.5, 0.3, -0.2), radius: 1.1}
}

// The slow functions compute from the document's text.

func slowFallen(c impl.Cloth, fall impl.Vector, keep float32) impl.Cloth {
	return changedCloth(c, func(c *impl.Cloth) {
		for i := range c.Places {
			if holds(c.Pinned, int64(i)) {
				continue
			}
			p, o := pointOf(c.Places[i]), pointOf(c.Olds[i])
			c.Olds[i] = c.Places[i]
			c.Places[i] = vectorOf(p.plus(p.minus(o).times(float64(keep))).plus(pointOf(fall)))
		}
	})
}

// slowDistance is that of the places of a thread.
func slowDistance(c impl.Cloth, t impl.Thread) float64 {
	return pointOf(c.Places[t.B]).minus(pointOf(c.Places[t.A])).long()
}

// tug changes the places of a thread.
func tug(c *impl.Cloth, t impl.Thread) {
	a, b, d := pointOf(c.Places[t.A]), pointOf(c.Places[t.B]), slowDistance(*c, t)
	v, s := b.minus(a), rounded(rounded(d-float64(t.Long))/d)
	if d == 0 || math.IsNaN(s) || math.IsInf(s, 0) {
		return
	}
	aStays, bStays := holds(c.Pinned, t.A), holds(c.Pinned, t.B)
	switch {
	case aStays && bStays:
	case aStays:
		c.Places[t.B] = vectorOf(b.minus(v.times(s)))
	case bStays:
		c.Places[t.A] = vectorOf(a.plus(v.times(s)))
	default:
		c.Places[t.A] = vectorOf(a.plus(v.times(rounded(s / 2))))
		c.Places[t.B] = vectorOf(b.minus(v.times(rounded(s / 2))))
	}
}

func slowPulled(c impl.Cloth, i int64) impl.Cloth {
	return changedCloth(c, func(c *impl.Cloth) { tug(c, c.Threads[i]) })
}

func slowRelaxed(c impl.Cloth, rounds int64) impl.Cloth {
	return changedCloth(c, func(c *impl.Cloth) {
		for range rounds {
			for _, t := range c.Threads {
				tug(c, t)
			}
		}
	})
}

func slowDraped(c impl.Cloth, centre impl.Vector, radius float32) impl.Cloth {
	return changedCloth(c, func(c *impl.Cloth) {
		for i, place := range c.Places {
			if holds(c.Pinned, int64(i)) {
				continue
			}
			way := pointOf(place).minus(pointOf(centre))
			if d := way.long(); d == 0 {
				c.Places[i] = vectorOf(pointOf(centre).plus(point{0, 0, float64(radius)}))
			} else if d < float64(radius) {
				c.Places[i] = vectorOf(pointOf(centre).plus(way.times(rounded(float64(radius) / d))))
			}
		}
	})
}

func slowFloored(c impl.Cloth, height float32) impl.Cloth {
	return changedCloth(c, func(c *impl.Cloth) {
		for i, place := range c.Places {
			if !holds(c.Pinned, int64(i)) && place.Z < height {
				c.Places[i].Z = height
			}
		}
	})
}

func slowBlown(c impl.Cloth, b blow, steps int64) impl.Cloth {
	for range steps {
		c = slowDraped(slowRelaxed(slowFallen(c, b.fall, b.keep), b.rounds), b.centre, b.radius)
	}
	return c
}

// slowStretches tells how far threads are stretched.
func slowStretches(c impl.Cloth) []float32 {
	var list []float32
	for _, t := range c.Threads {
		list = append(list, float32(slowDistance(c, t)/float64(t.Long)))
	}
	return list
}

func slowInside(c impl.Cloth, centre impl.Vector, radius float32) []int64 {
	var list []int64
	for i, place := range c.Places {
		if pointOf(place).minus(pointOf(centre)).long() < float64(radius) {
			list = append(list, int64(i))
		}
	}
	return list
}

// wantCloth asks for a cloth by its text, which tells all bits but those of not-a-numbers.
func wantCloth(t *testing.T, what string, got impl.Cloth, ok bool, expected impl.Cloth) {
	t.Helper()
	wantOk(t, what, got, ok, expected)
}

// wantPinned asks that all pinned places, and their Olds, are where they have been, and that threads and pins are the same.
func wantPinned(t *testing.T, what string, before, behind impl.Cloth) {
	t.Helper()
	if len(before.Places) != len(behind.Places) || len(before.Olds) != len(behind.Olds) {
		t.Fatalf("%s: %d places and %d Olds became %d and %d", what, len(before.Places), len(before.Olds), len(behind.Places), len(behind.Olds))
	}
	for _, place := range before.Pinned {
		wantVector(t, told(what, "pinned place", place), behind.Places[place], before.Places[place])
		wantVector(t, told(what, "pinned Old", place), behind.Olds[place], before.Olds[place])
	}
	want(t, what+", threads", behind.Threads, before.Threads)
	want(t, what+", pins", behind.Pinned, before.Pinned)
}
