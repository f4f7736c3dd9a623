package tests

import (
	"math"
	"testing"

	"loop.example/g01222/impl"
)

// wantPulled asks for a cloth of one thread that has pulled its places, once or as the only thread of a round.
func wantPulled(t *testing.T, what string, c impl.Cloth, a, b impl.Vector) {
	t.Helper()
	expected := withPlaces(c, a, b)
	pulled, ok := impl.PullThread(c, 0)
	wantCloth(t, what, pulled, ok, expected)
	relaxed, ok := impl.RelaxCloth(c, 1)
	wantCloth(t, what+", relaxed", relaxed, ok, expected)
}

// wantNotPulled asks for this with any pins, and that nothing changes.
func wantNotPulled(t *testing.T, what string, a, b impl.Vector, long float32) {
	t.Helper()
	for _, pinned := range [][]int64{nil, {0}, {1}, {0, 1}} {
		wantPulled(t, told(what, "pinned", pinned), threadAt(a, b, long, pinned...), a, b)
		wantPulled(t, told(what, "turned, pinned", pinned), threadAt(b, a, long, pinned...), b, a)
	}
}

func TestPullThread(t *testing.T) {
	o, x, z := vec(0, 0, 0), vec(2, 0, 0), num(minusZ)
	wantPulled(t, "none pinned", threadAt(o, x, 1), vec(0.5, 0, 0), vec(1.5, 0, 0))
	wantPulled(t, "A pinned", threadAt(o, x, 1, 0), o, vec(1, 0, 0))
	wantPulled(t, "B pinned", threadAt(o, x, 1, 1), vec(1, 0, 0), x)
	wantPulled(t, "both pinned", threadAt(o, x, 1, 0, 1), o, x)
	// A thread that is longer than its way pushes.
	wantPulled(t, "a long thread", threadAt(o, x, 6), vec(-2, 0, 0), vec(4, 0, 0))
	wantPulled(t, "a long thread, A pinned", threadAt(o, x, 6, 0), o, vec(6, 0, 0))
	wantPulled(t, "a long thread, B pinned", threadAt(o, x, 6, 1), vec(-4, 0, 0), x)
	wantPulled(t, "a way in two directions", threadAt(vec(1, 3, 4), vec(1, -3, -4), 5), vec(1, 1.5, 2), vec(1, -1.5, -2))
	// A thread that is as long as its way adds and takes away zeros, with their signs.
	wantPulled(t, "zeros", threadAt(vec(z, z, z), vec(2, z, 0), 2), o, vec(2, z, 0))
	wantPulled(t, "zeros, A pinned", threadAt(vec(z, 0, z), vec(2, z, z), 2, 0), vec(z, 0, z), vec(2, 0, z))
	wantPulled(t, "zeros, B pinned", threadAt(vec(z, 0, z), vec(2, z, z), 2, 1), vec(0, 0, 0), vec(2, z, z))
	wantPulled(t, "zeros, both pinned", threadAt(vec(z, 0, z), vec(2, z, z), 2, 0, 1), vec(z, 0, z), vec(2, z, z))
	// Other pins and threads do not matter.
	row := clothAt([]impl.Vector{o, vec(0, 3, 4), vec(0, 9, 12), vec(7, 7, 7)}, thread(0, 1, 1), thread(1, 2, 5), thread(2, 3, 1))
	pulled, ok := impl.PullThread(pinnedAt(row, 0, 3), 1)
	wantCloth(t, "a thread in a row", pulled, ok, withPlaces(pinnedAt(row, 0, 3), o, vec(0, 4.5, 6), vec(0, 7.5, 10)))
	pulled, ok = impl.PullThread(pinnedAt(row, 1, 3), 1)
	wantCloth(t, "a thread in a row, A pinned", pulled, ok, withPlaces(pinnedAt(row, 1, 3), o, vec(0, 3, 4), vec(0, 6, 8)))
	pulled, ok = impl.PullThread(pinnedAt(row, 0, 2), 1)
	wantCloth(t, "a thread in a row, B pinned", pulled, ok, withPlaces(pinnedAt(row, 0, 2), o, vec(0, 6, 8)))
}

func TestThreadsThatCannotPull(t *testing.T) {
	z, n, i, most := num(minusZ), num(nan), num(inf), float32(math.MaxFloat32)
	for _, long := range []float32{num(1), 1e-30, 1, most} {
		for _, place := range []impl.Vector{{}, vec(1, -2, 3), vec(z, z, z), vec(num(1), z, 1e30), vec(most, -most, 0)} {
			wantNotPulled(t, told("the same places", place, long), place, place, long)
		}
		wantNotPulled(t, told("zeros", long), vec(z, z, 0), vec(z, 0, z), long)
		// The squares of these ways are less than the least number, and greater than the greatest one.
		wantNotPulled(t, told("a tiny way", long), vec(0, z, 0), vec(1e-30, num(1), z), long)
		wantNotPulled(t, told("too great a way", long), vec(0, z, 0), vec(1e20, z, 1), long)
		for _, v := range []impl.Vector{vec(n, z, 1), vec(1, n, z), vec(z, 1, n), vec(i, z, 1), vec(1, i, z), vec(z, 1, -i), vec(i, n, -i)} {
			wantNotPulled(t, told("not finite", v, long), v, vec(1, z, 2), long)
			wantNotPulled(t, told("both not finite", v, long), v, v, long)
		}
	}
	// The quotient is too great, and the greatest one that is not.
	wantNotPulled(t, "too great a quotient", vec(z, 0, 0), vec(0.5, 0, z), most)
	wantNotPulled(t, "a short way", vec(z, 0, 0), vec(1e-20, 0, z), 1e20)
	wantPulled(t, "a great quotient", threadAt(vec(0, 0, 0), vec(1, 0, 0), most), vec(-most/2, 0, 0), vec(most/2, 0, 0))
	wantPulled(t, "a great quotient, A pinned", threadAt(vec(0, 0, 0), vec(1, 0, 0), most, 0), vec(0, 0, 0), vec(most, 0, 0))
}

// TestPullThreadToTheLastBit has values that were computed outside of the program.
func TestPullThreadToTheLastBit(t *testing.T) {
	cases := []struct {
		pinned []int64
		bits   [][]uint32 // of A and B of each thread
	}{
		{nil, [][]uint32{
			{0x3e9a9384, 0x3dcad8f7, 0x3eaad452, 0x3f8c8e52, 0xbe991ca4, 0x3eeec548}, {0x3fbb2019, 0xbd9bfce4, 0x3f374487, 0x40026ff4, 0x3f89bfce, 0x3fbdf757},
			{0xbf80be89, 0x3f40be89, 0x3f6261a5, 0x3f9a5822, 0xbeb4b044, 0x3f0404c1}, {0x3ee3a670, 0xbf43d488, 0xbeea971e, 0x3e82bff7, 0xbe70ade5, 0xbd2b4710},
			{0x3fe481d0, 0x3f39d916, 0x3f86a46e, 0x3f81e497, 0xbf06a5e4, 0xbe1b89d8}, {0x3f33fd91, 0x3fff73e5, 0xbf1804de, 0x3f18cf3c, 0xbfa5da4c, 0xbf4e6189},
			{0xbd798710, 0x3fb7adde, 0x3d0bac40, 0xbead9bec, 0x3fa1ebbc, 0x3e882410}, {0x3f16e422, 0xbd372110, 0x3ec35d1d, 0x3f4f8244, 0xbe1f0489, 0x3ed63c7d}}},
		{[]int64{1, 4}, [][]uint32{
			{0x3f00f9eb, 0xbaf9eb00, 0x3ebc0f0a, 0x3fa66666, 0xbecccccd, 0x3f000000}, {0x3fa66666, 0xbecccccd, 0x3f000000, 0x400ccccd, 0x3fb33333, 0x3fd9999a},
			{0xbf696089, 0x3f34b044, 0x3f5e5ce3, 0x3fa66666, 0xbecccccd, 0x3f000000}, {0x3ee3a670, 0xbf43d488, 0xbeea971e, 0x3e82bff7, 0xbe70ade5, 0xbd2b4710},
			{0x400ccccd, 0x3fb33333, 0x3fd9999a, 0x3fb6fc61, 0x3e179db0, 0x3efe0fc2}, {0x3f33fd91, 0x3fff73e5, 0xbf1804de, 0x3f18cf3c, 0xbfa5da4c, 0xbf4e6189},
			{0xbd798710, 0x3fb7adde, 0x3d0bac40, 0xbead9bec, 0x3fa1ebbc, 0x3e882410}, {0x3f8a1755, 0xbe942eaa, 0x3eed20a0, 0x3fa66666, 0xbecccccd, 0x3f000000}}},
	}
	for _, c := range cases {
		cloth := mixedCloth(c.pinned...)
		for i, bits := range c.bits {
			places, own := vectorsOfBits(bits...), cloth.Threads[i]
			pulled, ok := impl.PullThread(cloth, int64(i))
			wantCloth(t, told("thread", i, "pinned", c.pinned), pulled, ok, changedCloth(cloth, func(c *impl.Cloth) {
				c.Places[own.A], c.Places[own.B] = places[0], places[1]
			}))
		}
	}
}

func TestPullThreadIsThatOfTheText(t *testing.T) {
	for i, c := range validCloths() {
		for j := range int64(len(c.Threads)) {
			if j < 9 || j%17 == 0 {
				pulled, ok := impl.PullThread(c, j)
				wantCloth(t, told("thread", j, "of cloth", i), pulled, ok, slowPulled(c, j))
			}
		}
	}
}

func TestPullThreadOfOtherThreadsFails(t *testing.T) {
	for i, c := range []impl.Cloth{{}, looseCloth(9), mixedCloth(1), sail(), thicket()} {
		count := int64(len(c.Threads))
		for _, j := range []int64{-1, count, count + 1, 256, 257, 1 << 32, math.MinInt64, math.MaxInt64} {
			pulled, ok := impl.PullThread(c, j)
			wantNone(t, told("thread", j, "of cloth", i), pulled, ok)
		}
	}
}

// TestPulledThreadsHaveTheirLengths asks for it nearly.
func TestPulledThreadsHaveTheirLengths(t *testing.T) {
	for i, c := range usualCloths() {
		for j, own := range c.Threads {
			for _, pinned := range [][]int64{nil, {own.A}, {own.B}} {
				pulled, _ := impl.PullThread(pinnedAt(c, pinned...), int64(j))
				if long := slowDistance(pulled, own); math.Abs(long-float64(own.Long)) > 1e-5 {
					t.Errorf("thread %d of cloth %d, pinned %v: %v instead of %v", j, i, pinned, long, own.Long)
				}
			}
		}
	}
}

func TestRelaxCloth(t *testing.T) {
	row := clothAt([]impl.Vector{vec(0, 0, 0), vec(3, 0, 0), vec(7, 0, 0)}, thread(0, 1, 1), thread(1, 2, 1))
	relaxed, ok := impl.RelaxCloth(row, 0)
	wantCloth(t, "no rounds", relaxed, ok, row)
	relaxed, ok = impl.RelaxCloth(row, 1)
	wantCloth(t, "one round", relaxed, ok, withPlaces(row, vec(1, 0, 0), vec(4, 0, 0), vec(5, 0, 0)))
	relaxed, ok = impl.RelaxCloth(row, 2)
	wantCloth(t, "two rounds", relaxed, ok, withPlaces(row, vec(2, 0, 0), vec(3.5, 0, 0), vec(4.5, 0, 0)))
	// In the other order, the threads begin at other places.
	turned := changedCloth(row, func(c *impl.Cloth) { c.Threads[0], c.Threads[1] = c.Threads[1], c.Threads[0] })
	relaxed, ok = impl.RelaxCloth(turned, 1)
	wantCloth(t, "the other order", relaxed, ok, withPlaces(turned, vec(1.75, 0, 0), vec(2.75, 0, 0), vec(5.5, 0, 0)))
	relaxed, ok = impl.RelaxCloth(pinnedAt(row, 1), 40)
	wantCloth(t, "a pin in the middle", relaxed, ok, withPlaces(pinnedAt(row, 1), vec(2, 0, 0), vec(3, 0, 0), vec(4, 0, 0)))
	relaxed, ok = impl.RelaxCloth(pinnedAt(row, 0, 1, 2), 40)
	wantCloth(t, "all pinned", relaxed, ok, pinnedAt(row, 0, 1, 2))
	for _, c := range []impl.Cloth{{}, looseCloth(1), looseCloth(64), pinnedAt(looseCloth(9), 8)} {
		relaxed, ok := impl.RelaxCloth(c, 40)
		wantCloth(t, "no threads", relaxed, ok, c)
	}
}

// TestRelaxClothToTheLastBit has values that were computed outside of the program.
func TestRelaxClothToTheLastBit(t *testing.T) {
	cases := []struct {
		pinned []int64
		rounds int64
		bits   []uint32
	}{
		{nil, 1, []uint32{0x3f3e2b11, 0xbe2cfa42, 0x3e89ff44, 0x3f6ebdd6, 0xbdd36b08, 0x3ed6414b, 0xbd9c59c0, 0x3fd670ea, 0xbc350900,
			0xbea6965a, 0x3fba91fe, 0x3e5af9b4, 0x3fdb06d8, 0x3f38e4a6, 0x3f8cecbb, 0x3f50ac9a, 0xbf620b56, 0x3c06fe20}},
		{nil, 3, []uint32{0x3f3cc211, 0xbebc6f72, 0x3e52a7f4, 0x3f7039b5, 0xbebc81b4, 0x3eb568eb, 0xbe99d9f9, 0x40011847, 0x3c069da9,
			0xbebcc58d, 0x3fd32c32, 0x3e1ac170, 0x3fdd36ad, 0x3f3393ef, 0x3f8a36c6, 0x3f8859b7, 0xbf6ea1af, 0x3e4da4ad}},
		{nil, 40, []uint32{0x3f362ee6, 0xbf14a4af, 0x3e0642d0, 0x3f54283f, 0xbefdd77d, 0x3eab8c00, 0xbede8220, 0x4005c1a0, 0x3d98b4d8,
			0xbe82a8b5, 0x3fde3afc, 0x3e013aa6, 0x3fe94974, 0x3f42c1ef, 0x3f894527, 0x3f903c15, 0xbf4f7acc, 0x3e857370}},
		{[]int64{1, 4}, 1, []uint32{0x3f8b2f1e, 0xbec5cf7b, 0x3ebd09df, 0x3fa66666, 0xbecccccd, 0x3f000000, 0xbdb18cd8, 0x3fd3379c, 0xbe12c218,
			0xbe953d54, 0x3fb535ee, 0x3ddcf588, 0x400ccccd, 0x3fb33333, 0x3fd9999a, 0x3fbe69b5, 0xbe8d081b, 0x3f567760}},
		{[]int64{1, 4}, 3, []uint32{0x3f88dfaa, 0xbeb9e85c, 0x3ed2698e, 0x3fa66666, 0xbecccccd, 0x3f000000, 0xbedc2265, 0x3ff2e35a, 0xbe76651e,
			0xbea0656e, 0x3fca5ca7, 0xbcd36a86, 0x400ccccd, 0x3fb33333, 0x3fd9999a, 0x3fcb840b, 0xbe8b89ce, 0x3f6db75f}},
		{[]int64{1, 4}, 40, []uint32{0x3f96b9f1, 0xbe9418f7, 0x3f300ecc, 0x3fa66666, 0xbecccccd, 0x3f000000, 0xbee83c3b, 0x3fdefd45, 0xbeb987cf,
			0xbe5a5f37, 0x3fbae0cb, 0xbe58f316, 0x400ccccd, 0x3fb33333, 0x3fd9999a, 0x3fba23d1, 0xbea2105d, 0x3faf7949}},
	}
	for _, c := range cases {
		cloth := mixedCloth(c.pinned...)
		relaxed, ok := impl.RelaxCloth(cloth, c.rounds)
		wantCloth(t, told("pinned", c.pinned, "rounds", c.rounds), relaxed, ok, withPlaces(cloth, vectorsOfBits(c.bits...)...))
	}
}

func TestRelaxClothIsThatOfTheText(t *testing.T) {
	for i, c := range validCloths() {
		for _, rounds := range []int64{0, 1, 2, int64(i % 41)} {
			relaxed, ok := impl.RelaxCloth(c, rounds)
			wantCloth(t, told("rounds", rounds, "of cloth", i), relaxed, ok, slowRelaxed(c, rounds))
			wantPinned(t, told("rounds", rounds, "of cloth", i), c, relaxed)
		}
	}
}

func TestRelaxClothIsOneThreadAfterAnother(t *testing.T) {
	for i, c := range usualCloths() {
		next := c
		for range 2 {
			for j := range c.Threads {
				next, _ = impl.PullThread(next, int64(j))
			}
		}
		relaxed, ok := impl.RelaxCloth(c, 2)
		wantCloth(t, named("cloth", i), relaxed, ok, next)
	}
}

func TestRoundsOfThreadsHaveALimit(t *testing.T) {
	for i, c := range []impl.Cloth{{}, looseCloth(5), mixedCloth(), mixedCloth(1, 4), sail(), thicket()} {
		for _, rounds := range []int64{0, 1, 39, 40} {
			relaxed, ok := impl.RelaxCloth(c, rounds)
			wantCloth(t, told("rounds", rounds, "of cloth", i), relaxed, ok, slowRelaxed(c, rounds))
		}
		for _, rounds := range badRounds() {
			relaxed, ok := impl.RelaxCloth(c, rounds)
			wantNone(t, told("rounds", rounds, "of cloth", i), relaxed, ok)
		}
	}
}

// TestManyRoundsRelaxCloth asks that a sail that has begun to swing comes nearly to rest.
func TestManyRoundsRelaxCloth(t *testing.T) {
	c := sail()
	before, _ := impl.StretchOf(c)
	relaxed, _ := impl.RelaxCloth(c, 40)
	behind, _ := impl.StretchOf(relaxed)
	if !(before > 1.1 && behind < 1.001) {
		t.Errorf("the greatest stretch %v became %v", before, behind)
	}
}
