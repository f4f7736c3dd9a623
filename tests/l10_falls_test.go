package tests

import (
	"testing"

	"loop.example/g01222/impl"
)

func TestFallCloth(t *testing.T) {
	z, n, i := num(minusZ), num(nan), num(inf)
	c := impl.Cloth{
		Places: []impl.Vector{vec(1, 2, 3), vec(z, 0, 0), vec(5, 5, 5)},
		Olds:   []impl.Vector{vec(0, 4, 3), vec(0, 0, 0), vec(7, 7, 7)},
	}
	cases := []struct {
		fall     impl.Vector
		keep     float32
		expected []impl.Vector
	}{
		{vec(0, 0, -1), 1, []impl.Vector{vec(2, 0, 2), vec(0, 0, -1), vec(3, 3, 2)}},
		{vec(0, 0, -1), 0, []impl.Vector{vec(1, 2, 2), vec(0, 0, -1), vec(5, 5, 4)}},
		{vec(1, 0, 0), 0.5, []impl.Vector{vec(2.5, 1, 3), vec(1, 0, 0), vec(5, 4, 4)}},
		{vec(0, 0, 0), -1, []impl.Vector{vec(0, 4, 3), vec(0, 0, 0), vec(7, 7, 7)}},
		// A -0 stays just where only such ones are added.
		{vec(z, z, z), 1, []impl.Vector{vec(2, 0, 3), vec(z, 0, 0), vec(3, 3, 3)}},
		{vec(0, z, z), 1, []impl.Vector{vec(2, 0, 3), vec(0, 0, 0), vec(3, 3, 3)}},
		{vec(z, z, z), -1, []impl.Vector{vec(0, 4, 3), vec(0, 0, 0), vec(7, 7, 7)}},
		{vec(1e30, n, -i), 1, []impl.Vector{vec(1e30, n, -i), vec(1e30, n, -i), vec(1e30, n, -i)}},
		{vec(0, 0, 0), i, []impl.Vector{vec(i, -i, n), vec(n, n, n), vec(-i, -i, -i)}},
		{vec(0, 0, 0), n, []impl.Vector{vec(n, n, n), vec(n, n, n), vec(n, n, n)}},
	}
	for _, v := range cases {
		what := told("by", v.fall, "keeping", v.keep)
		fallen, ok := impl.FallCloth(c, v.fall, v.keep)
		wantCloth(t, what, fallen, ok, impl.Cloth{Places: v.expected, Olds: c.Places})
		fallen, ok = impl.FallCloth(pinnedAt(c, 0, 1), v.fall, v.keep)
		wantCloth(t, what+", pinned", fallen, ok, impl.Cloth{
			Places: []impl.Vector{c.Places[0], c.Places[1], v.expected[2]},
			Olds:   []impl.Vector{c.Olds[0], c.Olds[1], c.Places[2]},
			Pinned: []int64{0, 1},
		})
		fallen, ok = impl.FallCloth(pinnedAt(c, 0, 1, 2), v.fall, v.keep)
		wantCloth(t, what+", all pinned", fallen, ok, pinnedAt(c, 0, 1, 2))
		fallen, ok = impl.FallCloth(impl.Cloth{}, v.fall, v.keep)
		wantCloth(t, what+", no places", fallen, ok, impl.Cloth{})
	}
}

// TestFallClothToTheLastBit has values that were computed outside of the program.
func TestFallClothToTheLastBit(t *testing.T) {
	cases := []struct {
		pinned []int64
		bits   []uint32
	}{
		{nil, []uint32{0x3de147af, 0x3db851ea, 0xbf228f5c, 0x3fca3d70, 0xbf30a3d7, 0xbf28f5c2, 0x3f4ccccd, 0x3fc28f5c, 0xbfd5c290,
			0xbf51eb86, 0x3f47ae15, 0xbe851ebc, 0x401eb852, 0x3f8e147a, 0x3f4f5c2a, 0x3f4a3d72, 0xbfbeb853, 0xbfcccccd}},
		{[]int64{1, 4}, []uint32{0x3de147af, 0x3db851ea, 0xbf228f5c, 0x3fa66666, 0xbecccccd, 0x3f000000, 0x3f4ccccd, 0x3fc28f5c, 0xbfd5c290,
			0xbf51eb86, 0x3f47ae15, 0xbe851ebc, 0x400ccccd, 0x3fb33333, 0x3fd9999a, 0x3f4a3d72, 0xbfbeb853, 0xbfcccccd}},
	}
	for _, c := range cases {
		before := mixedCloth(c.pinned...)
		fallen, ok := impl.FallCloth(before, vec(0.1, -0.2, -0.98), 0.9)
		wantCloth(t, told("pinned", c.pinned), fallen, ok, changedCloth(before, func(next *impl.Cloth) {
			copy(next.Places, vectorsOfBits(c.bits...))
			copy(next.Olds, before.Places)
			for _, place := range c.pinned {
				next.Olds[place] = before.Olds[place]
			}
		}))
	}
}

func TestFallClothIsThatOfTheText(t *testing.T) {
	odd := oddNumbers()
	for i, c := range validCloths() {
		x, y := odd[i%len(odd)], odd[(i*7+3)%len(odd)]
		for _, b := range []blow{{fall: vec(0.3, -0.1, -1.7), keep: 0.9}, {fall: vec(x, 0.25, y), keep: 0.99}, {fall: vec(0, y, -1), keep: x}} {
			fallen, ok := impl.FallCloth(c, b.fall, b.keep)
			what := told("cloth", i, "by", b.fall, "keeping", b.keep)
			wantCloth(t, what, fallen, ok, slowFallen(c, b.fall, b.keep))
			wantPinned(t, what, c, fallen)
		}
	}
}

// TestClothFallsAsThingsDo compares with the squares of the steps.
func TestClothFallsAsThingsDo(t *testing.T) {
	c := looseCloth(1)
	for step := 1; step <= 40; step++ {
		c, _ = impl.FallCloth(c, vec(0, 0, -2), 1)
		want(t, told("step", step), c.Places, []impl.Vector{vec(0, 0, float32(-step*(step+1)))})
	}
}

func TestFloorCloth(t *testing.T) {
	z, n, i := num(minusZ), num(nan), num(inf)
	c := clothAt([]impl.Vector{vec(1, 2, -3), vec(z, n, 0), vec(5, -5, z), vec(-i, 0, -i), vec(1, 1, i), vec(0, z, n), vec(0, 0, 2.5)})
	cases := []struct {
		height   float32
		expected []float32 // the Z of all places
	}{
		{-1, []float32{-1, 0, z, -1, i, n, 2.5}}, {2.5, []float32{2.5, 2.5, 2.5, 2.5, i, n, 2.5}}, {num(0x40200001), repeat(num(0x40200001), 7)},
		// Neither of both zeros is less than the other one.
		{0, []float32{0, 0, z, 0, i, n, 2.5}}, {z, []float32{z, 0, z, z, i, n, 2.5}}, {num(1), []float32{num(1), num(1), num(1), num(1), i, n, 2.5}},
		{-i, []float32{-3, 0, z, -i, i, n, 2.5}}, {n, []float32{-3, 0, z, -i, i, n, 2.5}}, {i, repeat(i, 7)}, {-3, []float32{-3, 0, z, -3, i, n, 2.5}},
	}
	for _, v := range cases {
		for _, pinned := range [][]int64{nil, {0, 3}, {0, 1, 2, 3, 4, 5, 6}} {
			before := pinnedAt(c, pinned...)
			floored, ok := impl.FloorCloth(before, v.height)
			wantCloth(t, told("height", v.height, "pinned", pinned), floored, ok, changedCloth(before, func(c *impl.Cloth) {
				for place := range c.Places {
					if place != 4 && place != 5 && !holds(pinned, int64(place)) {
						c.Places[place].Z = v.expected[place]
					}
				}
			}))
		}
	}
	floored, ok := impl.FloorCloth(impl.Cloth{}, 1)
	wantCloth(t, "no places", floored, ok, impl.Cloth{})
}

func TestFloorClothIsThatOfTheText(t *testing.T) {
	for i, c := range validCloths() {
		for _, height := range []float32{0, -1.5, oddNumbers()[i%len(oddNumbers())]} {
			floored, ok := impl.FloorCloth(c, height)
			wantCloth(t, told("cloth", i, "height", height), floored, ok, slowFloored(c, height))
			wantPinned(t, told("cloth", i, "height", height), c, floored)
		}
	}
}

// TestClothLiesOnAFloor lets it fall on one, and asks that nothing is below it but pins.
func TestClothLiesOnAFloor(t *testing.T) {
	for i, c := range usualCloths() {
		for step := range 10 {
			c, _ = impl.FallCloth(c, vec(0.1, 0, -0.5), 0.9)
			c, _ = impl.RelaxCloth(c, 2)
			c, _ = impl.FloorCloth(c, -2)
			for j, place := range c.Places {
				if !(place.Z >= -2) && !holds(c.Pinned, int64(j)) {
					t.Fatalf("place %d of cloth %d is at %v after step %d", j, i, place, step)
				}
			}
		}
	}
}
