package tests

import (
	"math"
	"testing"

	"loop.example/g01222/impl"
)

// wantRest asks how far three ways are from meeting well, or for a failure.
func wantRest(t *testing.T, list [3]impl.Vector, expected float64, exists bool) {
	t.Helper()
	rest, ok := impl.MeetRest(list[0], list[1], list[2])
	wantSumIf(t, exists, told("rest", list), rest, ok, expected)
}

// TestMeetRest has values that were computed outside of the program.
func TestMeetRest(t *testing.T) {
	x, y, z := vec(1, 0, 0), vec(0, 1, 0), vec(0, 0, 1)
	for _, c := range []struct {
		list [3]impl.Vector
		rest float32
	}{
		{[3]impl.Vector{x, vec(3, 0, 0), vec(-2, 0, 0)}, 1}, {[3]impl.Vector{x, x, x}, 3}, {[3]impl.Vector{x, y, z}, num(0x3fddb3d7)},
		{[3]impl.Vector{vec(0, 0, 5), vec(0, 0, -1), vec(2, 0, 0)}, 1},
		{[3]impl.Vector{x, vec(-0.5, 0.8660254, 0), vec(-0.5, -0.8660254, 0)}, 0},
		{[3]impl.Vector{vec(0.3, -0.7, 1.1), vec(2.3, 0.4, -0.6), vec(-1.2, 0.9, 0.1)}, num(0x3f484b4f)},
		// Squares that are rounded to subnormal numbers, to +0, and to infinities.
		{[3]impl.Vector{vec(1e-20, 0, 0), vec(0, 2e-20, 0), vec(0, 0, 3e-20)}, num(0x3fddb3e2)}, {[3]impl.Vector{vec(1e-22, 0, 0), y, z}, num(0x3fde6ba5)},
		{[3]impl.Vector{vec(1e-23, 1, 0), vec(1e-23, -1, 0), x}, 1}, {[3]impl.Vector{vec(1e-30, 0, 0), x, y}, num(nan)},
		{[3]impl.Vector{x, vec(0, num(0x80000001), 0), y}, num(nan)}, {[3]impl.Vector{x, y, vec(num(1), num(1), num(1))}, num(inf)},
		{[3]impl.Vector{vec(1e30, 0, 0), x, y}, num(0x3fb504f3)}, {[3]impl.Vector{vec(1e19, 0, 0), vec(0, 1e19, 0), vec(0, 0, 1e19)}, num(0x3fddb3d7)},
		{[3]impl.Vector{vec(3e38, 3e38, 3e38), vec(-3e38, 0, 0), vec(0, 3e38, 0)}, 0},
	} {
		wantRest(t, c.list, float64(c.rest), true)
	}
}

func TestMeetRestNeedsThreeWays(t *testing.T) {
	good := vec(1, -2, 3)
	bad := []impl.Vector{{}, vec(num(minusZ), 0, 0), vec(0, num(minusZ), num(minusZ)), vec(num(minusZ), num(minusZ), num(minusZ))}
	for _, x := range nums(inf, negInf, nan, 0xffc00001) {
		bad = append(bad, vec(x, 0, 0), vec(1, x, 2), vec(1, 2, x), vec(x, x, x))
	}
	for _, v := range bad {
		for _, list := range [][3]impl.Vector{{v, good, good}, {good, v, good}, {good, good, v}, {v, v, v}} {
			wantRest(t, list, 0, false)
		}
	}
}

func TestMeetRestIsThatOfTheText(t *testing.T) {
	for _, list := range allCorners() {
		expected, exists := slowRest(list)
		wantRest(t, list, expected, exists)
	}
}

// TestPathLong has values that were computed outside of the program.
func TestPathLong(t *testing.T) {
	o, x := vec(0, 0, 0), vec(1, 0, 0)
	for _, c := range []struct {
		p, a, b, c impl.Vector
		long       float32
	}{
		{o, vec(3, 0, 0), vec(0, 4, 0), vec(3, 4, 0), 12}, {vec(1, 1, 1), vec(1, 1, 1), vec(1, 1, 1), vec(1, 1, 1), 0}, {x, o, o, o, 3}, {o, x, o, o, 1},
		{vec(0.1, 0.2, 0.3), vec(0.3, -0.7, 1.1), vec(2.3, 0.4, -0.6), vec(-1.2, 0.9, 0.1), num(0x40a31262)},
		// Paths are added from left to right.
		{o, vec(1e8, 0, 0), x, vec(4, 0, 0), num(0x4cbebc20)}, {o, vec(4, 0, 0), vec(4, 0, 0), vec(1e8, 0, 0), num(0x4cbebc21)},
		{o, vec(num(minusZ), 0, 0), o, o, 0}, {o, vec(1e-30, 0, 0), vec(0, 1e-25, 0), o, 0}, {o, vec(1e20, 0, 0), x, x, num(inf)},
		{vec(num(nan), 0, 0), x, x, x, num(nan)}, {o, vec(num(negInf), 0, 0), x, x, num(inf)}, {vec(num(inf), 0, 0), vec(num(inf), 0, 0), x, x, num(nan)},
		{o, x, vec(0, num(nan), 0), x, num(nan)}, {o, x, x, vec(0, 0, num(nan)), num(nan)},
	} {
		wantNumber(t, told("paths", c.p, c.a, c.b, c.c), impl.PathLong(c.p, c.a, c.b, c.c), c.long)
	}
	d := dice(37)
	lists := allCorners()
	for i, list := range lists {
		p := d.vector()
		if i%3 == 0 {
			p = lists[(i+1)%len(lists)][0]
		}
		wantNumber(t, told("paths", p, list), impl.PathLong(p, list[0], list[1], list[2]), float32(slowPath(p, list)))
	}
}

// wantMeet asks for the point where three paths meet, or for a failure.
func wantMeet(t *testing.T, list [3]impl.Vector, rounds int64, expected impl.Vector, exists bool) {
	t.Helper()
	at, ok := impl.MeetPoint(list[0], list[1], list[2], rounds)
	if exists {
		wantOk(t, told("point", list, rounds), at, ok, expected)
	} else {
		wantNone(t, told("point", list, rounds), at, ok)
	}
}

// TestMeetPointToTheLastBit has values that were computed outside of the program, for the rounds 0, 1, 2, 99 and 100.
func TestMeetPointToTheLastBit(t *testing.T) {
	z, e30 := num(minusZ), float32(1e30)
	for _, c := range []struct {
		a, b, c impl.Vector
		bits    []uint32
	}{
		{vec(0.3, -0.7, 1.1), vec(2.3, 0.4, -0.6), vec(-1.2, 0.9, 0.1), []uint32{
			0x3eeeeeee, 0x3e4cccce, 0x3e4cccce, 0x3ec82e58, 0x3da8d7fd, 0x3eabcf63, 0x3eb3ddb7, 0x3cc84eb9, 0x3ece736a,
			0x3ea7550d, 0xbd857c0a, 0x3efdb06c, 0x3ea7550d, 0xbd857c0a, 0x3efdb06c}},
		{vec(0, 0, 0), vec(4, 0, 0), vec(1, 3, 0), []uint32{
			0x3fd55556, 0x3f800000, 0, 0x3fbdc482, 0x3f83ba43, 0, 0x3fb1ac6d, 0x3f85c785, 0, 0x3fa6ad7e, 0x3f85fbc5, 0, 0x3fa6ad7e, 0x3f85fbc5, 0}},
		// At a corner of a third of a turn, points become better so slowly that the last round matters.
		{vec(0, 0, 0), vec(1, 0, 0), vec(-0.5, 0.8660254, 0), []uint32{
			0x3e2aaaab, 0x3e93cd3a, 0, 0x3ddc6a9d, 0x3e3ee2de, 0, 0x3da43a54, 0x3e0e39b9, 0, 0x3b56c3ec, 0x3bb9fe03, 0, 0x3b54abcc, 0x3bb82db6, 0}},
		// At a wider corner, they go into it.
		{vec(0, 0, 0), vec(10, 0.5, 0), vec(-9, 0.5, 0), []uint32{
			0x3eaaaaab, 0x3eaaaaab, 0, 0x3cf69b03, 0x3d38ecf6, 0, 0x39b8e259, 0x3bb94aa1, 0, 0x156be299, 0x19a657be, 0, 0x156be299, 0x19a657be, 0}},
		// Two points that lie on one another have a corner as well, and three are the point themselves, nearly.
		{vec(0, 0, 0), vec(0, 0, 0), vec(3, 0, 0), []uint32{
			0x3f800000, 0, 0, 0x3f19999a, 0, 0, 0x3eaaaaab, 0, 0, 0x19b504f3, 0, 0, 0x19b504f3, 0, 0}},
		{vec(1, 2, 3), vec(1, 2, 3), vec(1, 2, 3), []uint32{
			0x3f800000, 0x40000000, 0x40400000, 0x3f800000, 0x40000000, 0x40400000, 0x3f800000, 0x40000000, 0x40400000,
			0x3f800000, 0x40000000, 0x40400000, 0x3f800000, 0x40000000, 0x40400000}},
		{vec(0.1, 0.2, 0.3), vec(0.1, 0.2, 0.3), vec(0.1, 0.2, 0.3), []uint32{
			0x3dccccce, 0x3e4cccce, 0x3e99999a, 0x3dcccccd, 0x3e4ccccd, 0x3e99999a, 0x3dcccccd, 0x3e4ccccd, 0x3e99999a,
			0x3dcccccd, 0x3e4ccccd, 0x3e99999a, 0x3dcccccd, 0x3e4ccccd, 0x3e99999a}},
		// The first point is one of the ends, so it stays there.
		{vec(1, 0, 0), vec(-1, 0, 0), vec(0, 0, 0), make([]uint32, 15)},
		{vec(z, z, z), vec(z, z, z), vec(z, z, z), repeat[uint32](minusZ, 15)},
		// Squares that are +0 or infinite.
		{vec(1e-30, 0, 0), vec(0, 1e-30, 0), vec(0, 0, 1e-30), repeat[uint32](0x0cd85880, 15)},
		{vec(e30, 0, 0), vec(0, e30, 0), vec(0, 0, e30), append(repeat[uint32](0x7086a1dc, 3), repeat[uint32](nan, 12)...)},
		{vec(3e38, 0, 0), vec(3e38, 0, 0), vec(3e38, 0, 0), append([]uint32{inf, 0, 0}, repeat[uint32](nan, 12)...)},
		{vec(3e38, 0, 0), vec(-3e38, 0, 0), vec(3e38, 0, 0), append([]uint32{0x7e96769a, 0, 0}, repeat[uint32](nan, 12)...)},
		{vec(1e19, 0, 0), vec(0, 2e19, 0), vec(0, 0, 3e19), []uint32{
			0x5e390984, 0x5eb90984, 0x5f0ac724, 0x5e9976bb, 0x5ef82f1a, 0, 0x5e9976b9, 0x5ef82f1a, 0, 0x5e9976b8, 0x5ef82f1b, 0, 0x5e9976b8, 0x5ef82f1b, 0}},
	} {
		for i, at := range vectorsOfBits(c.bits...) {
			wantMeet(t, [3]impl.Vector{c.a, c.b, c.c}, []int64{0, 1, 2, 99, 100}[i], at, true)
		}
	}
}

func TestMeetPointIsThatOfTheText(t *testing.T) {
	for i, list := range allCorners() {
		for _, rounds := range []int64{0, 1, 2, 3, int64(i % 101), 100} {
			expected, exists := slowMeet(list, rounds)
			wantMeet(t, list, rounds, expected, exists)
		}
	}
}

func TestMeetPointFails(t *testing.T) {
	good := vec(1, -2, 3)
	for _, rounds := range []int64{-1, -100, 101, 102, 1 << 32, 1<<32 + 1, math.MinInt64, math.MaxInt64} {
		wantMeet(t, [3]impl.Vector{good, vec(1, 0, 0), vec(0, 1, 0)}, rounds, impl.Vector{}, false)
		wantMeet(t, [3]impl.Vector{good, good, good}, rounds, impl.Vector{}, false)
	}
	for _, x := range nums(inf, negInf, nan, 0xffc00001) {
		for _, v := range []impl.Vector{vec(x, 0, 0), vec(1, x, 2), vec(1, 2, x), vec(x, x, x)} {
			for _, rounds := range []int64{0, 1, 100} {
				for _, list := range [][3]impl.Vector{{v, good, good}, {good, v, good}, {good, good, v}, {v, v, v}} {
					wantMeet(t, list, rounds, impl.Vector{}, false)
				}
			}
		}
	}
}

// ways returns the vectors from a point to three others.
func ways(p impl.Vector, list [3]impl.Vector) [3]impl.Vector {
	for i, at := range list {
		list[i] = impl.LessVectors(at, p)
	}
	return list
}

// widestCorner returns the least cosine of the angles of a triangle.
func widestCorner(list [3]impl.Vector) float32 {
	least := float32(1)
	for i, at := range list {
		v, w := impl.LessVectors(list[(i+1)%3], at), impl.LessVectors(list[(i+2)%3], at)
		least = min(least, impl.InnerOf(v, w)/(impl.LongOf(v)*impl.LongOf(w)))
	}
	return least
}

// TestFilmsMeetAThirdOfATurnApart takes triangles without corners of a third of a turn or more.
func TestFilmsMeetAThirdOfATurnApart(t *testing.T) {
	d := dice(39)
	for count := 0; count < 200; {
		list := d.corners()
		if widestCorner(list) < -0.4 {
			continue
		}
		count++
		at, ok := impl.MeetPoint(list[0], list[1], list[2], 100)
		to := ways(at, list)
		rest, meets := impl.MeetRest(to[0], to[1], to[2])
		if !ok || !meets || !(rest < 1e-3) {
			t.Errorf("the ways from %v to %v are %v from meeting well", at, list, rest)
		}
		for i, v := range to {
			w := to[(i+1)%3]
			if cosine := impl.InnerOf(v, w) / (impl.LongOf(v) * impl.LongOf(w)); !(cosine > -0.501 && cosine < -0.499) {
				t.Errorf("the ways from %v to %v have the cosine %v", at, list, cosine)
			}
		}
	}
}

// TestPathsToMeetPointsAreShort compares with the round before, and with points around.
func TestPathsToMeetPointsAreShort(t *testing.T) {
	d := dice(40)
	for range 100 {
		list := d.corners()
		long := func(p impl.Vector) float32 { return impl.PathLong(p, list[0], list[1], list[2]) }
		last := float32(math.Inf(1))
		for rounds := range int64(101) {
			at, ok := impl.MeetPoint(list[0], list[1], list[2], rounds)
			if now := long(at); !ok || !(now <= last*1.000001) {
				t.Errorf("paths to %v: %v after %d rounds, and %v before", list, now, rounds, last)
			} else {
				last = now
			}
		}
		at, _ := impl.MeetPoint(list[0], list[1], list[2], 100)
		for range 50 {
			near := impl.AddVectors(at, impl.ScaleVector(d.vector(), 0.05))
			if !(long(near) > last*0.9999) {
				t.Errorf("paths to %v: %v from %v, but %v from %v", list, last, at, long(near), near)
			}
		}
	}
}
