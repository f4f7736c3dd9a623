package tests

import (
	"math"
	"testing"

	"loop.example/g01222/impl"
)

// wantBlown asks for a cloth behind some steps, and behind the same steps one by one.
func wantBlown(t *testing.T, what string, c impl.Cloth, b blow, steps int64, expected impl.Cloth) {
	t.Helper()
	end, ok := b.run(c, steps)
	wantCloth(t, what, end, ok, expected)
	if steps == 1 {
		end, ok = b.step(c)
		wantCloth(t, what+", as a step", end, ok, expected)
	}
}

func TestStepCloth(t *testing.T) {
	// The place 0 is pinned, and the place 1 falls, is pulled back, and is put out of the ball.
	c := clothAt([]impl.Vector{vec(0, 0, 0), vec(4, 0, 0)}, thread(0, 1, 2))
	c.Olds[1] = vec(4, -2, 0)
	c.Pinned = []int64{0}
	b := blow{fall: vec(0, 1, 0), keep: 0.5, rounds: 0, centre: vec(8, 2, 0), radius: 1}
	wantBlown(t, "just a fall", c, b, 1, impl.Cloth{
		Places: []impl.Vector{vec(0, 0, 0), vec(4, 2, 0)}, Olds: []impl.Vector{vec(0, 0, 0), vec(4, 0, 0)}, Threads: c.Threads, Pinned: c.Pinned,
	})
	b.fall.Y, b.rounds = 2, 1
	wantBlown(t, "a fall and a pull", c, b, 1, slowPulled(slowFallen(c, b.fall, b.keep), 0))
	b.fall, b.keep, b.centre, b.radius = vec(0, 0, 0), 0, vec(0, 0, 0), 3
	wantBlown(t, "a pull and a ball", c, b, 1, impl.Cloth{
		Places: []impl.Vector{vec(0, 0, 0), vec(3, 0, 0)}, Olds: []impl.Vector{vec(0, 0, 0), vec(4, 0, 0)}, Threads: c.Threads, Pinned: c.Pinned,
	})
	b.centre = vec(2, 0, 0)
	wantBlown(t, "pulled into the centre", c, b, 1, impl.Cloth{
		Places: []impl.Vector{vec(0, 0, 0), vec(2, 0, 3)}, Olds: []impl.Vector{vec(0, 0, 0), vec(4, 0, 0)}, Threads: c.Threads, Pinned: c.Pinned,
	})
	for _, steps := range []int64{0, 1, 40} {
		wantBlown(t, told("no places", steps), impl.Cloth{}, mixedBlow(), steps, impl.Cloth{})
		all := mixedCloth(0, 1, 2, 3, 4, 5)
		wantBlown(t, told("all pinned", steps), all, mixedBlow(), steps, all)
	}
	for _, c := range []impl.Cloth{mixedCloth(), looseCloth(64), thicket()} {
		wantBlown(t, "no steps", c, mixedBlow(), 0, c)
	}
}

// TestRunClothToTheLastBit has values that were computed outside of the program.
func TestRunClothToTheLastBit(t *testing.T) {
	cases := []struct {
		pinned       []int64
		steps        int64
		places, olds []uint32
	}{
		{nil, 1, []uint32{0x3f6880e2, 0xbf1734c3, 0xbf445d7e, 0x3f91279c, 0xbf0ea2f8, 0xbf2a44c9, 0xbdc33ebf, 0x3fe36f25, 0xbf9660f4,
			0xbe41afed, 0x3fb83da6, 0xbf7b4c0e, 0x3ffc1bae, 0x3ed674d6, 0x3e5a73f9, 0x3f9b3819, 0xbf956863, 0xbf23c3cd},
			[]uint32{0x3dcccccd, 0x3e4ccccd, 0x3e99999a, 0x3fa66666, 0xbecccccd, 0x3f000000, 0x3f333333, 0x3ff33333, 0xbf19999a,
				0xbf8ccccd, 0x3f4ccccd, 0x3f666666, 0x400ccccd, 0x3fb33333, 0x3fd9999a, 0x3f19999a, 0xbf99999a, 0xbf4ccccd}},
		{nil, 5, []uint32{0x4018556a, 0xc0549c4a, 0xc1446453, 0x4010b029, 0xc050c87b, 0xc147c5db, 0x3fb0dd70, 0xbf554d54, 0xc15336d1,
			0x3fda2f45, 0xbf4f8eb1, 0xc156f9f2, 0x40560475, 0xc0190da0, 0xc150b3ec, 0x4034e563, 0xc04c2e4c, 0xc136625f},
			[]uint32{0x3fffb7e0, 0xc01fd500, 0xc105ce4b, 0x3fee62ed, 0xc019c9ff, 0xc108cf52, 0x3f637b0b, 0xbcbb1b13, 0xc111bb9e,
				0x3f956990, 0x3dc5fbfa, 0xc115e81e, 0x403ab75c, 0xbfb7736c, 0xc10d8ca0, 0x40103041, 0xc02128c8, 0xc0ede83c}},
		{nil, 40, []uint32{0x42032382, 0xc2798a88, 0xc397ed7a, 0x4202d7f0, 0xc279dd2f, 0xc3980a40, 0x4200ead8, 0xc27368f9, 0xc39935cb,
			0x41ffea30, 0xc27381e9, 0xc3990cf3, 0x42037049, 0xc27da7a1, 0xc398cb5f, 0x42056100, 0xc27ab47e, 0xc397f402},
			[]uint32{0x41fe5f38, 0xc271aabe, 0xc3931996, 0x41fdc7dc, 0xc271fd7e, 0xc393365a, 0x41f9ef04, 0xc26b849c, 0xc39461b3,
				0x41f80561, 0xc26b9fac, 0xc39438ca, 0x41ff0321, 0xc275c2a8, 0xc393f7ca, 0x42016f1a, 0xc272d218, 0xc393202c}},
		{[]int64{1, 4}, 1, []uint32{0x3f9d82d3, 0xbec0467c, 0x3e89b736, 0x3fa66666, 0xbecccccd, 0x3f000000, 0xbe2c7c98, 0x3fb41ff6, 0xbfb09413,
			0xbd9ba1ce, 0x3f96f2d2, 0xbf883412, 0x400ccccd, 0x3fb33333, 0x3fd9999a, 0x3fd4c062, 0xbdec7cd8, 0x3f3cd682},
			[]uint32{0x3dcccccd, 0x3e4ccccd, 0x3e99999a, 0x3f8ccccd, 0xbe99999a, 0x3f333333, 0x3f333333, 0x3ff33333, 0xbf19999a,
				0xbf8ccccd, 0x3f4ccccd, 0x3f666666, 0x40000000, 0x3fc00000, 0x3fcccccd, 0x3f19999a, 0xbf99999a, 0xbf4ccccd}},
		{[]int64{1, 4}, 5, []uint32{0x3fb1a244, 0xbea7a166, 0x3e8e0e59, 0x3fa66666, 0xbecccccd, 0x3f000000, 0x40040a66, 0xbfb344be, 0xc013b8ed,
			0x3ffc2ca9, 0xbfa1230b, 0xbff91119, 0x400ccccd, 0x3fb33333, 0x3fd9999a, 0x3ffbed73, 0x3f060696, 0x3e26149e},
			[]uint32{0x3fb35f6e, 0xbea1f2d3, 0x3e931e79, 0x3f8ccccd, 0xbe99999a, 0x3f333333, 0x3fd67e4d, 0xbf869012, 0xc02025b9,
				0x3fd10e53, 0xbf74ee3c, 0xc0076bd5, 0x40000000, 0x3fc00000, 0x3fcccccd, 0x40027a19, 0x3f159947, 0x3e02a844}},
		{[]int64{1, 4}, 40, []uint32{0x3fb2b104, 0xbeaaaca6, 0x3e8eda76, 0x3fa66666, 0xbecccccd, 0x3f000000, 0x3fd00fcc, 0xbf7d14df, 0xc020f290,
			0x3fcc21c9, 0xbf6557b9, 0xc0081f60, 0x400ccccd, 0x3fb33333, 0x3fd9999a, 0x3ffa472e, 0x3efc3a00, 0x3e577a3e},
			[]uint32{0x3fb2b0df, 0xbeaaac5c, 0x3e8eda4b, 0x3f8ccccd, 0xbe99999a, 0x3f333333, 0x3fd0006d, 0xbf7d028c, 0xc020f43c,
				0x3fcc146c, 0xbf6547d6, 0xc00820d2, 0x40000000, 0x3fc00000, 0x3fcccccd, 0x3ffa46d1, 0x3efc3ae0, 0x3e5778b5}},
	}
	for _, c := range cases {
		cloth := mixedCloth(c.pinned...)
		wantBlown(t, told("steps", c.steps, "pinned", c.pinned), cloth, mixedBlow(), c.steps, changedCloth(cloth, func(next *impl.Cloth) {
			next.Places, next.Olds = vectorsOfBits(c.places...), vectorsOfBits(c.olds...)
		}))
	}
}

// anyBlow returns one of usual size, or with an odd number.
func (d *dice) anyBlow(odd bool) blow {
	b := blow{fall: d.vector(), keep: float32(d.below(9)) / 8, rounds: int64(d.below(5)), centre: d.vector(), radius: float32(1+d.below(30)) / 10}
	if odd {
		list := oddNumbers()
		pick := func() float32 { return list[d.below(len(list))] }
		switch d.below(4) {
		case 0:
			b.fall.Z = pick()
		case 1:
			b.keep = pick()
		case 2:
			b.centre.X = pick()
		case 3:
			b.radius = max(num(1), list[d.below(24)])
		}
	}
	return b
}

func TestClothStepsAreThoseOfTheText(t *testing.T) {
	d := dice(67)
	for i, c := range validCloths() {
		for j := range 3 {
			b, steps := d.anyBlow(j == 2), int64(d.below(5))
			what := told("cloth", i, "blow", b, "steps", steps)
			wantBlown(t, what, c, b, steps, slowBlown(c, b, steps))
			wantBlown(t, what, c, b, 1, slowBlown(c, b, 1))
		}
	}
}

// TestAStepIsAFallAPullAndADrape compares with the functions it is made of.
func TestAStepIsAFallAPullAndADrape(t *testing.T) {
	d := dice(68)
	for i, c := range validCloths() {
		b := d.anyBlow(false)
		end, _ := b.run(c, 3)
		for range 3 {
			step, ok := b.step(c)
			c, _ = impl.FallCloth(c, b.fall, b.keep)
			c, _ = impl.RelaxCloth(c, b.rounds)
			c, _ = impl.DrapeCloth(c, b.centre, b.radius)
			wantCloth(t, told("step of cloth", i), step, ok, c)
		}
		wantCloth(t, named("three steps of cloth", i), end, true, c)
	}
}

func TestNumbersOfStepsHaveLimits(t *testing.T) {
	bad := []int64{-1, -40, 41, 42, 1 << 32, 1<<32 + 1, math.MinInt64, math.MaxInt64}
	for i, c := range []impl.Cloth{{}, looseCloth(5), mixedCloth(1, 4), sail()} {
		b := mixedBlow()
		for _, n := range []int64{0, 1, 39, 40} {
			b.rounds = 1
			wantBlown(t, told("cloth", i, "steps", n), c, b, n, slowBlown(c, b, n))
			b.rounds = n
			wantBlown(t, told("cloth", i, "rounds", n), c, b, 1, slowBlown(c, b, 1))
		}
		for _, n := range bad {
			b.rounds = 1
			end, ok := b.run(c, n)
			wantNone(t, told("cloth", i, "steps", n), end, ok)
			b.rounds = n
			end, ok = b.step(c)
			wantNone(t, told("cloth", i, "rounds", n), end, ok)
			for _, steps := range []int64{0, 1, 40, 41} {
				end, ok = b.run(c, steps)
				wantNone(t, told("cloth", i, "rounds", n, "steps", steps), end, ok)
			}
		}
	}
	// As many of all as there can be.
	b := mixedBlow()
	b.rounds = 40
	c := pinnedAt(thicket(), 3, 63)
	wantBlown(t, "the most of all", c, b, 40, slowBlown(c, b, 40))
}

func TestStepsNeedABall(t *testing.T) {
	for i, c := range []impl.Cloth{{}, looseCloth(5), mixedCloth(1, 4), mixedCloth(0, 1, 2, 3, 4, 5)} {
		for _, radius := range badSteps() {
			b := mixedBlow()
			b.radius = radius
			end, ok := b.step(c)
			wantNone(t, told("cloth", i, "radius", radius), end, ok)
			for _, steps := range []int64{0, 1, 40} {
				end, ok = b.run(c, steps)
				wantNone(t, told("cloth", i, "radius", radius, "steps", steps), end, ok)
			}
		}
	}
}

// TestPinnedPlacesStay asks for all bits of pinned places in all of the steps, with numbers that would change if even +0 were added.
func TestPinnedPlacesStay(t *testing.T) {
	d := dice(69)
	for i, c := range validCloths() {
		n := len(c.Places)
		for _, pinned := range [][]int64{c.Pinned, d.pins(n, 2), d.pins(n, 1)} {
			c := pinnedAt(spareCloth(c), pinned...)
			for _, place := range pinned {
				if d.below(2) == 0 {
					c.Places[place].X, c.Places[place].Z = num(minusZ), num(minusZ)
				}
			}
			b := d.anyBlow(i%2 == 0)
			if len(pinned) > 0 {
				b.centre = c.Places[pinned[0]]
			}
			fallen, _ := impl.FallCloth(c, b.fall, b.keep)
			relaxed, _ := impl.RelaxCloth(c, 1+b.rounds)
			draped, _ := impl.DrapeCloth(c, b.centre, b.radius)
			floored, _ := impl.FloorCloth(c, b.fall.Z)
			step, _ := b.step(c)
			run, _ := b.run(c, 3)
			for what, next := range map[string]impl.Cloth{"fallen": fallen, "relaxed": relaxed, "draped": draped, "floored": floored, "step": step, "run": run} {
				wantPinned(t, told(what, "cloth", i, "pinned", pinned), c, next)
			}
			if len(pinned) == n {
				wantCloth(t, told("all of cloth", i), run, true, c)
			}
			for j := range c.Threads {
				pulled, _ := impl.PullThread(c, int64(j))
				wantPinned(t, told("thread", j, "of cloth", i, "pinned", pinned), c, pulled)
			}
		}
	}
}

// TestClothNeverGoesThroughABall lets cloths fall on one, and looks at each step.
func TestClothNeverGoesThroughABall(t *testing.T) {
	grid, _ := impl.GridCloth(7, 7, 0.25)
	grid, _ = impl.MoveCloth(grid, vec(-0.875, -0.875, 0))
	for i, c := range append(usualCloths(), grid, pinnedAt(grid, 0, 7), pinnedAt(grid, 0, 7, 56, 63)) {
		b := blow{fall: vec(0, 0, -0.03), keep: 0.97, rounds: 8, centre: vec(0, 0, -0.75), radius: 0.6}
		end, _ := b.run(c, 40)
		for step := range 40 {
			c, _ = b.step(c)
			wantOutside(t, told("cloth", i, "step", step), c, b.centre, b.radius)
		}
		wantCloth(t, named("cloth", i), end, true, c)
	}
}

// TestClothHangsOnABall asks that the middle of a cloth comes to rest over the ball, and its corners below its top.
func TestClothHangsOnABall(t *testing.T) {
	c, _ := impl.GridCloth(6, 6, 0.25)
	c, _ = impl.MoveCloth(c, vec(-0.75, -0.75, 0.02))
	b := blow{fall: vec(0, 0, -0.01), keep: 0.9, rounds: 20, centre: vec(0, 0, -0.6), radius: 0.6}
	end, _ := b.run(c, 40)
	if middle, corner := end.Places[24], end.Places[0]; !(middle.Z > -0.01 && middle.Z < 0.01 && corner.Z < -0.2) {
		t.Errorf("the middle is at %v and a corner at %v", middle, corner)
	}
}
