package tests

import (
	"math"
	"slices"
	"testing"

	"loop.example/g01222/impl"
)

// TestGreatModesToTheLastBit has values that were computed outside of the program.
func TestGreatModesToTheLastBit(t *testing.T) {
	for _, c := range []struct {
		held   []int64
		rounds int64
		stiff  uint32
		bits   []uint32
	}{
		{nil, 0, 0x400220e3, []uint32{0x3e99999a, 0xbf333333, 0x3f8ccccd, 0x40133333, 0x3ecccccd, 0xbf19999a, 0xbf99999a, 0x3f666666, 0x3dcccccd,
			0x3f000000, 0x3f000000, 0xbf000000, 0x3fc00000, 0xc0200000, 0x3e800000, 0xbdcccccd, 0x3f19999a, 0xbfb33333}},
		{nil, 1, 0x40a8b1ec, []uint32{0xbe067fde, 0xbeae0458, 0x3f25c0f2, 0x3e5fd01c, 0x3e14b424, 0xbe9de853, 0xbe15fdc3, 0x3e15d403, 0x3d2c93b0,
			0x3dca5a1f, 0xbd160be0, 0xbd8513ad, 0x3d3d7245, 0xbdfd502e, 0x3d931279, 0xbdafb831, 0x3e55ab95, 0xbec6abbf}},
		{nil, 2, 0x40c1f045, []uint32{0xbd26830e, 0xbe9240db, 0x3f3e3148, 0x3e044f5c, 0x3daaba08, 0xbea32a24, 0xbd984cec, 0x3c3725a8, 0xbcbd56b9,
			0xbc120e9f, 0x3cebe3b1, 0xbda8f9ca, 0xbc87d40b, 0xbd7f3200, 0x3dafbf75, 0x3c39332e, 0x3e660265, 0xbecf1483}},
		{nil, 7, 0x40dc23d9, []uint32{0x3e96ab83, 0xbce599d5, 0x3f489b9a, 0xbde3954a, 0x3c838912, 0xbe9f1af7, 0xbd1c7ceb, 0xbd7a1f01, 0xbd8b4ed4,
			0xbd7eef53, 0x3b921dda, 0xbde1d61c, 0x3c567927, 0xbc6619fa, 0x3da4cbbd, 0xbdc431d2, 0x3da93502, 0xbec005e2}},
		{nil, 40, 0x40e5e53e, []uint32{0x3f24b98d, 0xbcd560e7, 0x3f087785, 0xbe97a99c, 0x3d996e0e, 0xbe64c7e0, 0xbcf95fbf, 0xbcce7481, 0xbd236269,
			0xbdd3cc19, 0xbc70cea3, 0xbda5df84, 0x3d81d3c4, 0xbc890270, 0x3d3542a9, 0xbe8db564, 0x3bfe1be4, 0xbe6e9e5f}},
		{[]int64{1, 4}, 0, 0x404e6247, []uint32{0x3e99999a, 0xbf333333, 0x3f8ccccd, 0, 0, 0, 0xbf99999a, 0x3f666666, 0x3dcccccd,
			0x3f000000, 0x3f000000, 0xbf000000, 0, 0, 0, 0xbdcccccd, 0x3f19999a, 0xbfb33333}},
		{[]int64{1, 4}, 1, 0x40b7f91d, []uint32{0x3e3fb568, 0xbea49cee, 0x3f3ba16f, 0, 0, 0, 0xbdfbdfd8, 0x3cf3a56b, 0xbc57cbcd,
			0xbd2fe672, 0xbc932875, 0xbd40cc8a, 0, 0, 0, 0xbdb44eb5, 0x3e5ff6cb, 0xbeff18c6}},
		{[]int64{1, 4}, 2, 0x40c1af9e, []uint32{0x3e88ff45, 0xbe773758, 0x3f436619, 0, 0, 0, 0xbd432ca9, 0xbd84a3ea, 0xbd7aea3b,
			0xbd81ec35, 0x3c1f1019, 0xbda09c9b, 0, 0, 0, 0xbdd21c75, 0x3e68ebdd, 0xbee7b133}},
		{[]int64{1, 4}, 7, 0x40c98d99, []uint32{0x3ee77d60, 0xbd8aeaf4, 0x3f3d7f67, 0, 0, 0, 0xbd0cdfeb, 0xbdc27689, 0xbd968146,
			0xbd93baf0, 0xbbc837dd, 0xbdc85bb0, 0, 0, 0, 0xbe5b8364, 0x3deda16e, 0xbec86980}},
		{[]int64{1, 4}, 40, 0x40cc7b8e, []uint32{0x3efbfbdf, 0x3e31aa1f, 0x3f338e65, 0, 0, 0, 0xbd08a695, 0xbccd3a69, 0xbd78b560,
			0xbd8de0d5, 0xbd009912, 0xbdd3ddc8, 0, 0, 0, 0xbe828a60, 0xbe047e05, 0xbeba1141}},
	} {
		v, stiff, ok := mixedSway(c.held...).great(0.125, c.rounds)
		wantMode(t, told("great mode with", c.held, c.rounds), v, stiff, ok, vectorsOfBits(c.bits...), float64(num(c.stiff)))
	}
}

// TestSoftModesToTheLastBit has values that were computed outside of the program. With a shift below 0, held places become -0 in each
// second round.
func TestSoftModesToTheLastBit(t *testing.T) {
	for _, c := range []struct {
		shift  float32
		rounds int64
		stiff  uint32
		bits   []uint32
	}{
		{12, 1, 0x3fec9cf6, []uint32{0x3d8156c6, 0xbe4c1795, 0x3e57af04, 0, 0, 0, 0xbf08d81b, 0x3edbae28, 0x3d61abb1,
			0x3e87c28f, 0x3e81ffa0, 0xbe65ffb8, 0, 0, 0, 0xbc1bb457, 0x3e492a91, 0xbeed7c01}},
		{12, 2, 0x3f882dfa, []uint32{0x3d3539df, 0xbdff2891, 0x3d684d41, 0, 0, 0, 0xbf111f58, 0x3eedbd0c, 0x3d604af0,
			0x3ea00440, 0x3e9c73d9, 0xbe82e5f6, 0, 0, 0, 0x3c129a75, 0x3e2f3294, 0xbec8a5a5}},
		{12, 7, 0x3e58f064, []uint32{0x3dbc1dfe, 0x3d97dad8, 0xbe16c41d, 0, 0, 0, 0xbefc1fd1, 0x3ece8890, 0xbcd80825,
			0x3eb80f06, 0x3eed999a, 0xbeba8b1a, 0, 0, 0, 0x3d798c7e, 0x3e2b18f3, 0xbe63e086}},
		{12, 40, 0xbd932f38, []uint32{0x3e293420, 0x3e24256d, 0xbe1bc342, 0, 0, 0, 0xbe4a778d, 0x3e9fafff, 0xbe0399ac,
			0x3e565942, 0x3f314e51, 0xbed236fe, 0, 0, 0, 0x3e20b3c5, 0x3e41d61a, 0xbe0b04a3}},
		{-3, 1, 0x40a1013d, []uint32{0xbe288f4e, 0x3ea08798, 0xbf21cab5, 0x80000000, 0x80000000, 0x80000000, 0x3e8d13e1, 0xbe2c76f8, 0xbc0d764c,
			0xbd6a3d4c, 0xbd946b1c, 0x3de5e65e, 0x80000000, 0x80000000, 0x80000000, 0x3d907e09, 0xbe6f9204, 0x3f09dac2}},
		{-3, 2, 0x40b862ba, []uint32{0x3e5e523e, 0xbe9460da, 0x3f3907d6, 0, 0, 0, 0xbe1746d4, 0x3d22478f, 0xbcd71eed,
			0xbc848985, 0x3cd8ae53, 0xbdae1c7c, 0, 0, 0, 0xbdb7b71c, 0x3e6da644, 0xbf0095e8}},
		{-3, 7, 0x40c747d9, []uint32{0xbec5ccee, 0x3e05f7f2, 0xbf41f6b1, 0x80000000, 0x80000000, 0x80000000, 0x3d10dbc5, 0x3dd150ec, 0x3d991171,
			0x3d8db14e, 0xbb442f59, 0x3dc19198, 0x80000000, 0x80000000, 0x80000000, 0x3e2f5bf6, 0xbe30eb52, 0x3ed2b7d6}},
		{-3, 40, 0x40cc629b, []uint32{0x3f02dccf, 0x3e0c4426, 0x3f32d200, 0, 0, 0, 0xbd09fe44, 0xbd092790, 0xbd7cf857,
			0xbd926c80, 0xbcf3013e, 0xbdd0efaa, 0, 0, 0, 0xbe876b28, 0xbdc3e35b, 0xbeb8e8ea}},
		{0.7, 1, 0x40ba8466, []uint32{0xbe4520f2, 0x3ea25e86, 0xbf425345, 0, 0, 0, 0x3d5a841a, 0x3d013e3f, 0x3cb74602,
			0x3daf5c81, 0x3d698e3e, 0x3c8ef165, 0, 0, 0, 0x3dbf89d2, 0xbe53ab40, 0x3eefda8e}},
		{0.7, 2, 0x40c2f288, []uint32{0x3e93bf4e, 0xbe5eefad, 0x3f43b269, 0, 0, 0, 0xbd1071fd, 0xbdaa94af, 0xbd96a042,
			0xbd81aca5, 0x3cbb5ecc, 0xbdba8a4e, 0, 0, 0, 0xbdd7e2f1, 0x3e6bdcc6, 0xbee1bafb}},
		{0.7, 7, 0x40ca2119, []uint32{0xbef0d4b5, 0x3d45fe9a, 0xbf3bb68f, 0, 0, 0, 0x3d0d51c2, 0x3db5fb36, 0x3d93c005,
			0x3d9569f9, 0x3c1881e6, 0x3dc91412, 0, 0, 0, 0x3e685af5, 0xbdc2965e, 0x3ec590b5}},
		{0.7, 40, 0x40cc7e83, []uint32{0x3ef96fd8, 0x3e3985be, 0x3f33c79f, 0, 0, 0, 0xbd08550f, 0xbcbf5f7c, 0xbd77ed97,
			0xbd8cc60d, 0xbd01c2bf, 0xbdd48394, 0, 0, 0, 0xbe813494, 0xbe0b9e5d, 0xbeba6b2e}},
	} {
		s := mixedSway(1, 4)
		v, stiff, ok := s.soft(0.125, c.shift, c.rounds)
		wantMode(t, told("soft mode with", c.shift, c.rounds), v, stiff, ok, vectorsOfBits(c.bits...), float64(num(c.stiff)))
		buckles, ok := s.buckles(0.125, c.shift, c.rounds)
		wantOk(t, told("buckles with", c.shift, c.rounds), buckles, ok, c.stiff>>31 == 1)
	}
}

// TestNextModesToTheLastBit has values that were computed outside of the program.
func TestNextModesToTheLastBit(t *testing.T) {
	for _, c := range []struct {
		rounds int64
		stiff  uint32
		bits   []uint32
	}{
		{0, 0x406fe457, []uint32{0x3f55e0c5, 0xbf17c8ce, 0x3f707a03, 0, 0, 0, 0xbf533ed4, 0xbdf062c0, 0x3e540ffa,
			0x3d92b364, 0x3f0db532, 0xbc942750, 0, 0, 0, 0x3efa5f23, 0x3e8eb4d7, 0xbf97c8ce}},
		{1, 0x40befa32, []uint32{0x3eb7194d, 0xbe90754b, 0x3f37088c, 0, 0, 0, 0xbd8dbf35, 0xbe20da78, 0xbd10045e,
			0xbd7168a3, 0xbb866d3e, 0xbd034196, 0, 0, 0, 0xbd2446f7, 0x3e531231, 0xbee61df5}},
		{2, 0x40c465fa, []uint32{0x3ec81170, 0xbe57a656, 0x3f3b2307, 0, 0, 0, 0xbcc37a4d, 0xbe272741, 0xbd8b3a51,
			0xbdad392b, 0x3c566ab5, 0xbd82de03, 0, 0, 0, 0xbdeaa830, 0x3e633387, 0xbeceb44b}},
		{7, 0x40c9f5a3, []uint32{0x3f04eb3d, 0xbd8eec60, 0x3f33bbf6, 0, 0, 0, 0xbcd55bf6, 0xbdef049a, 0xbd8fdc4c,
			0xbda8c5eb, 0xbc0c7136, 0xbdb1a443, 0, 0, 0, 0xbe723736, 0x3de1f84c, 0xbeb9393b}},
		{40, 0x40cc6766, []uint32{0x3f029631, 0x3e2f857c, 0x3f316243, 0, 0, 0, 0xbcec8846, 0xbd1df47e, 0xbd7597b2,
			0xbd979bbd, 0xbcfe64fe, 0xbdc93e0a, 0, 0, 0, 0xbe8293eb, 0xbe045e4e, 0xbeb61f09}},
	} {
		v, stiff, ok := mixedSway(1, 4).next(0.125, c.rounds)
		wantMode(t, told("next mode with", c.rounds), v, stiff, ok, vectorsOfBits(c.bits...), float64(num(c.stiff)))
	}
}

func TestModesAreThoseOfTheText(t *testing.T) {
	shifts, steps := append(oddNumbers(), 7, 0.1, -2), oddSteps()
	var great, soft, next, buckling int
	count := func(n *int, ok bool) {
		if ok {
			*n++
		}
	}
	for i, s := range allSways() {
		step, shift, rounds := float32(0.125), float32(5), int64(i%4)
		if i%3 == 0 {
			step, shift = steps[i%len(steps)], shifts[i%len(shifts)]
		}
		what := told("of body", i, "step", step, "shift", shift, rounds)
		list, expected, exists := slowGreat(s, step, rounds)
		v, stiff, ok := s.great(step, rounds)
		wantModeIf(t, exists, "great mode "+what, v, stiff, ok, list, expected)
		count(&great, exists)
		list, expected, exists = slowNext(s, step, rounds)
		v, stiff, ok = s.next(step, rounds)
		wantModeIf(t, exists, "next mode "+what, v, stiff, ok, list, expected)
		count(&next, exists)
		list, expected, exists = slowSoft(s, step, shift, rounds)
		v, stiff, ok = s.soft(step, shift, rounds)
		wantModeIf(t, exists, "soft mode "+what, v, stiff, ok, list, expected)
		count(&soft, exists)
		buckles, ok := s.buckles(step, shift, rounds)
		want(t, "what buckles "+what, told(buckles, ok), told(exists && expected < 0, exists))
		count(&buckling, buckles)
	}
	if min(great, soft, next, buckling) < 50 {
		t.Errorf("%d great modes, %d soft ones, %d next ones, and %d that buckle", great, soft, next, buckling)
	}
}

// ladder has springs at rest along X, all with the stiffness 1, and its first place is held.
func ladder(places int) sway {
	s := sway{b: bodyOf(impl.Mesh{}), held: []int64{0}}
	d := dice(45)
	for i := range places {
		s.b.Mesh.Places = append(s.b.Mesh.Places, vec(float32(i), 0, 0))
		s.b.Weights = append(s.b.Weights, 0)
		s.v, s.first = append(s.v, vec(d.number(), 0, 0)), append(s.first, vec(d.number(), 0, 0))
		if i > 0 {
			s.b.Springs = append(s.b.Springs, spring(int64(i-1), int64(i), 1, 1))
		}
	}
	return s
}

// wantNearMode asks for a mode of a ladder, whose stiffness is 2 less 2 times the cosine of its angle.
func wantNearMode(t *testing.T, what string, v []impl.Vector, stiff float32, ok bool, angle float64) {
	t.Helper()
	if expected := 2 - 2*math.Cos(angle); !ok || !(math.Abs(float64(stiff)-expected) < 1e-3) {
		t.Fatalf("%s has the stiffness %v, %v; want %v", what, stiff, ok, expected)
	}
	size := math.Hypot(float64(v[1].X), float64(v[2].X)) / math.Hypot(math.Sin(angle), math.Sin(2*angle))
	if float64(v[1].X)*math.Sin(angle) < 0 {
		size = -size
	}
	for i, place := range v {
		if x := size * math.Sin(float64(i)*angle); !(math.Abs(float64(place.X)-x) < 5e-3) || place.Y != 0 || place.Z != 0 {
			t.Errorf("%s has %v at %d, want %v", what, place, i, x)
		}
	}
}

func TestModesOfLadders(t *testing.T) {
	for free := 2; free <= 3; free++ {
		s := ladder(free + 1)
		angle := func(i int) float64 { return math.Pi * float64(2*i-1) / float64(2*free+1) }
		great, stiff, ok := s.great(1.0/64, 40)
		wantNearMode(t, named("great mode of", free), great, stiff, ok, angle(free))
		s.first = great
		next, stiff, ok := s.next(1.0/64, 40)
		wantNearMode(t, named("next mode of", free), next, stiff, ok, angle(free-1))
		soft, stiff, ok := s.soft(1.0/64, 3.3, 40)
		wantNearMode(t, named("soft mode of", free), soft, stiff, ok, angle(1))
	}
}

func TestGreatModesAreStiff(t *testing.T) {
	d := dice(46)
	compared := 0
	for i, s := range nets() {
		if len(s.held) == len(s.v) {
			continue
		}
		const step = 1.0 / 256
		before, ok := s.rayleigh(step)
		for _, rounds := range []int64{1, 4, 15, 40} {
			v, stiff, also := s.great(step, rounds)
			if !ok || !also || !(stiff >= 0.99*before) {
				t.Fatalf("net %d becomes less stiff in %d rounds, from %v to %v, %v, %v", i, rounds, before, stiff, ok, also)
			}
			if square := slowInner(v, v); math.Abs(square-1) > 1e-5 {
				t.Errorf("net %d has the square %v", i, square)
			}
			along, ok := s.with(v).rayleigh(step)
			wantSum(t, told("stiffness along the mode of net", i, rounds), along, ok, stiff)
			before = stiff
		}
		for range 10 {
			v := slowMadeFree(s.held, d.list(len(s.v), d.number))
			list, _ := s.with(v).times(step)
			stiff, ok := s.with(v).rayleigh(step)
			if !ok || !(stiff <= 1.02*before) || !(longAll(list) <= 1.05*float64(before)*longAll(v)) {
				t.Errorf("net %d has the stiffness %v, and %v along %v", i, before, stiff, v)
			}
			compared++
		}
	}
	if compared < 300 {
		t.Errorf("just %d lists are compared", compared)
	}
}

func TestSoftModesAreSoft(t *testing.T) {
	for i, s := range nets() {
		great, most, ok := s.great(1.0/256, 40)
		if !ok {
			continue
		}
		before, _ := s.rayleigh(1.0 / 256)
		for _, rounds := range []int64{1, 4, 15, 40} {
			_, stiff, ok := s.soft(1.0/256, 1.1*most, rounds)
			if !ok || !(stiff <= before+0.01*most) {
				t.Fatalf("net %d becomes stiffer in %d rounds, from %v to %v, %v", i, rounds, before, stiff, ok)
			}
			before = stiff
		}
		s.first = great
		if next, stiff, ok := s.next(1.0/256, 40); ok {
			if !(stiff <= 1.01*most) || !(stiff >= before-0.01*most) || !(math.Abs(slowInner(next, great)) < 1e-3) {
				t.Errorf("net %d has the next stiffness %v between %v and %v, and %v along the first one", i, stiff, before, most, slowInner(next, great))
			}
		}
	}
}

func TestCanBuckle(t *testing.T) {
	y, x := vec(0, 1, 0), vec(1, 0, 0)
	pressed := bar(1, 2)
	for _, c := range []struct {
		b       impl.Body
		v       impl.Vector
		shift   float32
		rounds  int64
		buckles bool
	}{
		// A bar that is pressed goes aside, but it takes some rounds to find this from a list along it.
		{pressed, y, 1, 0, true}, {pressed, y, 1, 40, true}, {pressed, x, 1, 0, false}, {pressed, vec(1, 0.01, 0), 1, 0, false},
		{pressed, vec(1, 0.01, 0), 1, 40, true}, {pressed, vec(1, 0, -0.25), 2, 40, true},
		{bar(3, 1), y, 1, 0, false}, {bar(3, 1), y, 1, 40, false}, {bar(3, 1), vec(1, 1, 1), 1.5, 40, false}, {bar(1, 1), y, 1, 5, false},
		// A stiffness of 0 is not less than it.
		{bodyOf(bar(1, 1).Mesh), y, 1, 3, false}, {bodyOf(bar(1, 1).Mesh), y, -1, 0, false},
	} {
		buckles, ok := barSway(c.b, c.v).buckles(1.0/64, c.shift, c.rounds)
		wantOk(t, told("buckles", c.b, c.v, c.shift, c.rounds), buckles, ok, c.buckles)
	}
	// A stiffness that is a not-a-number is not less than 0 either.
	s := barSway(pressed, vec(1e20, 0, 0))
	stiff, ok := s.rayleigh(0.25)
	wantSum(t, "stiffness along a great vector", stiff, ok, num(nan))
	buckles, ok := s.buckles(0.25, 1, 0)
	wantOk(t, "buckles along a great vector", buckles, ok, false)
}

// TestModesNeedSomethingFree takes lists that are zero when they are made free.
func TestModesNeedSomethingFree(t *testing.T) {
	z := num(minusZ)
	at := func(v impl.Vector) sway { return barSway(bar(3, 1), v) }
	mixed := mixedSway(0, 2, 3)
	mixed.v = slices.Clone(mixed.v)
	mixed.v[1], mixed.v[4], mixed.v[5] = vec(0, 0, 0), vec(z, z, z), vec(0, z, 0)
	for i, s := range []sway{
		{}, at(vec(0, 0, 0)), at(vec(z, 0, z)), at(vec(1, 2, 3)).holding(0, 1), at(vec(1, 2, 3)).holding(1), at(vec(num(inf), num(nan), 1)).holding(1),
		mixedSway(0, 1, 2, 3, 4, 5), mixed, mixed.with(make([]impl.Vector, 6)),
	} {
		for _, rounds := range []int64{0, 1, 2, 40} {
			v, stiff, ok := s.great(0.25, rounds)
			wantNoMode(t, told("great mode of", i, rounds), v, stiff, ok)
			v, stiff, ok = s.soft(0.25, 4, rounds)
			wantNoMode(t, told("soft mode of", i, rounds), v, stiff, ok)
			v, stiff, ok = s.next(0.25, rounds)
			wantNoMode(t, told("next mode of", i, rounds), v, stiff, ok)
			buckles, ok := s.buckles(0.25, 4, rounds)
			want(t, told("buckles", i, rounds), told(buckles, ok), told(false, false))
		}
	}
}

// TestModesWhereNothingIsStiff takes a body without energies, along whose lists the stiffness is 0.
func TestModesWhereNothingIsStiff(t *testing.T) {
	s := sway{bodyOf(meshOf(3)), []int64{0}, []impl.Vector{vec(7, 7, 7), vec(3, 0, 0), vec(0, 4, 0)}, make([]impl.Vector, 3)}
	free := []impl.Vector{{}, vec(3, 0, 0), vec(0, 4, 0)}
	v, stiff, ok := s.great(0.25, 0)
	wantMode(t, "great mode in no rounds", v, stiff, ok, free, 0)
	v, stiff, ok = s.next(0.25, 0)
	wantMode(t, "next mode in no rounds", v, stiff, ok, free, 0)
	for _, shift := range []float32{2, 0.5, -2, 0, num(inf), num(nan)} {
		v, stiff, ok = s.soft(0.25, shift, 0)
		wantMode(t, told("soft mode in no rounds with", shift), v, stiff, ok, free, 0)
	}
	unit := []impl.Vector{{}, vec(0.6, 0, 0), vec(0, 0.8, 0)}
	turned := []impl.Vector{vec(num(minusZ), num(minusZ), num(minusZ)), vec(-0.6, num(minusZ), num(minusZ)), vec(num(minusZ), -0.8, num(minusZ))}
	v, stiff, ok = s.soft(0.25, 1, 1)
	wantMode(t, "soft mode", v, stiff, ok, unit, 0)
	v, stiff, ok = s.soft(0.25, -1, 1)
	wantMode(t, "soft mode that is turned", v, stiff, ok, turned, 0)
	for _, rounds := range []int64{1, 2, 40} {
		v, stiff, ok = s.great(0.25, rounds)
		wantNoMode(t, told("great mode in", rounds), v, stiff, ok)
		v, stiff, ok = s.next(0.25, rounds)
		wantNoMode(t, told("next mode in", rounds), v, stiff, ok)
		for _, shift := range nums(0, minusZ, 1, 0x7f7fffff, inf, negInf, nan) {
			v, stiff, ok = s.soft(0.25, shift, rounds)
			wantNoMode(t, told("soft mode in", rounds, "with", shift), v, stiff, ok)
		}
	}
}

// TestNextModesStayAcross looks at first lists without a length, along the list, and with any numbers at held places.
func TestNextModesStayAcross(t *testing.T) {
	s := mixedSway(1, 4)
	for _, rounds := range []int64{0, 1, 7, 40} {
		list, stiff, ok := s.great(0.125, rounds)
		none, somewhere := s, s
		none.first, somewhere.first = make([]impl.Vector, 6), make([]impl.Vector, 6)
		somewhere.first[1], somewhere.first[4] = vec(1, -2, 3), vec(num(nan), num(inf), 1)
		for i, other := range []sway{none, somewhere} {
			v, number, also := other.next(0.125, rounds)
			wantMode(t, told("next mode beside nothing", i, rounds), v, number, also, list, float64(stiff))
		}
		if !ok {
			t.Errorf("great mode fails in %d rounds", rounds)
		}
		next, stiff, ok := s.next(0.125, rounds)
		for _, x := range nums(0, minusZ, 0x7f7fffff, inf, nan) {
			other := s
			other.first = slices.Clone(s.first)
			other.first[1], other.first[4] = vec(x, 1, -x), vec(x, x, x)
			v, number, also := other.next(0.125, rounds)
			want(t, told("next mode with", x, "at held places"), told(v, number, also), told(next, stiff, ok))
		}
		along := s
		along.v, along.first = []impl.Vector{{}, vec(9, 9, 9), {}, vec(1, 2, 0), vec(9, 9, 9), {}}, []impl.Vector{{}, {}, {}, vec(-1, -2, 0), {}, {}}
		v, number, also := along.next(0.125, rounds)
		wantNoMode(t, told("next mode along the first one", rounds), v, number, also)
		beside := s
		beside.first = slices.Clone(s.first)
		beside.first[2].Y = num(nan)
		v, number, also = beside.next(0.125, rounds)
		wantNoMode(t, told("next mode beside a not-a-number", rounds), v, number, also)
	}
}

// TestNextModesAreMadeFreeOnce takes a part that is infinite, which is taken away behind this, and makes not-a-numbers of held zeros.
func TestNextModesAreMadeFreeOnce(t *testing.T) {
	s, x, down := barSway(bar(3, 1), vec(1e30, 1e30, 1e30)), num(nan), num(negInf)
	s.first = []impl.Vector{{}, vec(1e-20, 1e-20, 1e-20)}
	v, stiff, ok := s.next(0.25, 0)
	wantMode(t, "next mode without an infinite part", v, stiff, ok, []impl.Vector{vec(x, x, x), vec(down, down, down)}, math.NaN())
	v, stiff, ok = s.next(0.25, 1)
	wantNoMode(t, "next mode behind it", v, stiff, ok)
}

func TestRoundsOfModesHaveALimit(t *testing.T) {
	for i, s := range []sway{mixedSway(1, 4), barSway(bar(3, 1), vec(1, 0, 0)), barSway(bodyOf(bar(3, 1).Mesh), vec(1, 0, 0)), {}} {
		for _, rounds := range badRounds() {
			what := told("of body", i, rounds)
			v, stiff, ok := s.great(0.25, rounds)
			wantNoMode(t, "great mode "+what, v, stiff, ok)
			v, stiff, ok = s.soft(0.25, 3, rounds)
			wantNoMode(t, "soft mode "+what, v, stiff, ok)
			v, stiff, ok = s.next(0.25, rounds)
			wantNoMode(t, "next mode "+what, v, stiff, ok)
			buckles, ok := s.buckles(0.25, 3, rounds)
			want(t, "what buckles "+what, told(buckles, ok), told(false, false))
		}
	}
	b := barSway(bar(3, 1), vec(0.5, 0, 0))
	for _, rounds := range []int64{1, 2, 39, 40} {
		v, stiff, ok := b.great(1, rounds)
		wantMode(t, told("mode of a bar", rounds), v, stiff, ok, []impl.Vector{{}, vec(1, 0, 0)}, 1)
	}
}

func TestModesNeedSteps(t *testing.T) {
	for i, s := range []sway{mixedSway(), mixedSway(1, 4), barSway(bar(3, 1), vec(1, 0, 0)), {}} {
		for _, step := range badSteps() {
			for _, rounds := range []int64{0, 1, 40} {
				what := told("of body", i, "step", step, rounds)
				v, stiff, ok := s.great(step, rounds)
				wantNoMode(t, "great mode "+what, v, stiff, ok)
				v, stiff, ok = s.soft(step, 3, rounds)
				wantNoMode(t, "soft mode "+what, v, stiff, ok)
				v, stiff, ok = s.next(step, rounds)
				wantNoMode(t, "next mode "+what, v, stiff, ok)
				buckles, ok := s.buckles(step, 3, rounds)
				want(t, "what buckles "+what, told(buckles, ok), told(false, false))
			}
		}
	}
}

func TestModesNeedAVectorForEachPlace(t *testing.T) {
	for i, s := range misfits() {
		v, stiff, ok := s.great(0.125, 0)
		wantNoMode(t, named("great mode of misfit", i), v, stiff, ok)
		v, stiff, ok = s.soft(0.125, 2, 0)
		wantNoMode(t, named("soft mode of misfit", i), v, stiff, ok)
		v, stiff, ok = s.next(0.125, 0)
		wantNoMode(t, named("next mode of misfit", i), v, stiff, ok)
		s.v, s.first = s.first, s.v
		v, stiff, ok = s.next(0.125, 0)
		wantNoMode(t, named("next mode beside misfit", i), v, stiff, ok)
		buckles, ok := s.with(s.first).buckles(0.125, 2, 0)
		want(t, named("what buckles of misfit", i), told(buckles, ok), told(false, false))
	}
}
