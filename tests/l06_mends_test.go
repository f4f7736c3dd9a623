package tests

import (
	"math"
	"testing"

	"loop.example/g01222/impl"
)

// wantMend compares a mesh that is mended once.
func wantMend(t *testing.T, what string, m impl.Mesh, short, long float32, expected impl.Mesh, act int64) {
	t.Helper()
	next, got, ok := impl.MendOnce(m, short, long)
	wantMesh(t, what, next, ok, expected.Places, expected.Triangles)
	want(t, what+", act", got, act)
}

// wantMends compares a mesh that is mended again and again.
func wantMends(t *testing.T, what string, m impl.Mesh, short, long float32, rounds int64, expected impl.Mesh, acts []int64) {
	t.Helper()
	last, got, ok := impl.MendMesh(m, short, long, rounds)
	wantMesh(t, what, last, ok, expected.Places, expected.Triangles)
	want(t, what+", acts", got, acts)
}

func TestKindsOfMending(t *testing.T) {
	want(t, "kinds", []int64{impl.MendNone, impl.MendSplit, impl.MendJoin, impl.MendFlip}, []int64{0, 1, 2, 3})
}

// mendedCases were computed outside of the program. The places are those that are left of the mesh, and then the others.
var mendedCases = []struct {
	m           impl.Mesh
	short, long float32
	acts        []int64
	left        []int
	others      []uint32
	triangles   [][]int64
}{
	{
		mixedBody().Mesh, 0.5, 2.5, []int64{1, 1, 1, 3}, []int{0, 1, 2, 3, 4, 5},
		[]uint32{0x3fb9999a, 0x3fd33333, 0x3f0cccce, 0x3f800000, 0x3f400000, 0xbd4cccd0, 0xbe4ccccc, 0x3faccccd, 0x3e199998},
		[][]int64{{1, 7, 0}, {0, 7, 8}, {4, 6, 1}, {2, 7, 6}, {7, 2, 8}, {7, 1, 6}, {8, 3, 0}},
	},
	{
		mixedBody().Mesh, 1, 1.9, []int64{1, 1, 1, 1, 1, 1, 2, 2}, []int{0, 1, 2, 3, 4, 5},
		[]uint32{0x3fb9999a, 0x3fd33333, 0x3f0cccce, 0x3f800000, 0x3f400000, 0xbd4cccd0, 0xbe4ccccc, 0x3faccccd, 0x3e199998, 0x3fe00000, 0x3effffff, 0x3f8ccccd},
		[][]int64{{1, 7, 0}, {0, 7, 8}, {2, 7, 6}, {1, 9, 7}, {8, 3, 0}, {9, 4, 6}, {9, 6, 7}, {7, 2, 8}},
	},
	// Just one triangle is left, of the places 2 and 0 and of the middle between 2 and 4. The others are not used.
	{
		mixedBody().Mesh, 1.5, 2.5, []int64{1, 1, 1, 2, 2, 2, 1, 2}, []int{0, 2, 3, 4, 5},
		[]uint32{0x3fb9999a, 0x3fd33333, 0x3f0cccce}, [][]int64{{1, 0, 5}},
	},
	{
		bentGrid(), 0.1, 9, []int64{3, 3, 3}, []int{0, 1, 2, 3, 4, 5, 6, 7, 8}, nil,
		[][]int64{{1, 5, 7}, {0, 1, 3}, {1, 2, 5}, {5, 4, 7}, {3, 1, 7}, {3, 7, 6}, {4, 5, 8}, {4, 8, 7}},
	},
	{
		bentGrid(), 0.8, 2.2, []int64{1, 2, 3, 3, 3}, []int{0, 1, 2, 3, 4, 5, 6, 7}, []uint32{0x3f733333, 0x3f59999a, 0x3f0ccccd},
		[][]int64{{1, 5, 8}, {0, 1, 3}, {1, 2, 5}, {5, 4, 8}, {3, 8, 7}, {3, 7, 6}, {1, 8, 3}, {8, 4, 7}},
	},
	{
		bentGrid(), 1.2, 2.5, []int64{1, 2, 2, 2, 1, 2, 3}, []int{0, 1, 2, 4, 5, 6, 7}, nil,
		[][]int64{{1, 2, 4}, {4, 3, 6}, {0, 1, 6}, {0, 6, 5}, {1, 4, 6}},
	},
}

func TestMeshesAreMendedToTheLastBit(t *testing.T) {
	for i, c := range mendedCases {
		what := named("case", i)
		expected := impl.Mesh{Triangles: c.triangles}
		for _, place := range c.left {
			expected.Places = append(expected.Places, c.m.Places[place])
		}
		expected.Places = append(expected.Places, vectorsOfBits(c.others...)...)
		wantMends(t, what, c.m, c.short, c.long, 64, expected, c.acts)
		wantMends(t, what+" with just the rounds", c.m, c.short, c.long, int64(len(c.acts)), expected, c.acts)
		wantMend(t, what+" again", expected, c.short, c.long, expected, 0)
		_, acts, _ := impl.MendMesh(c.m, c.short, c.long, int64(len(c.acts)-1))
		want(t, what+" with one round less", acts, c.acts[:len(c.acts)-1])
	}
}

func TestMendOnceSplitsWhatIsTooLong(t *testing.T) {
	// The longest edges are 0 3, with the length 5, and 1 3, with the length 4, which is as long as 0 2.
	m := impl.Mesh{Places: []impl.Vector{vec(0, 0, 0), vec(3, 0, 0), vec(0, 4, 0), vec(3, 4, 0)}, Triangles: [][]int64{tri(0, 1, 3), tri(0, 3, 2)}}
	split := impl.Mesh{Places: append(m.Places[:4:4], vec(1.5, 2, 0)), Triangles: [][]int64{tri(3, 4, 1), tri(0, 4, 2), tri(4, 0, 1), tri(4, 3, 2)}}
	wantMend(t, "4.99", m, 0, 4.99, split, 1)
	wantMend(t, "the number below 5", m, 0, num(0x409fffff), split, 1)
	wantMend(t, "5", m, 0, 5, m, 0)
	wantMend(t, "-1", m, 0, -1, split, 1)
	wantMend(t, "a split comes before a join", m, 100, 4, split, 1)
	wantMends(t, "two splits", m, 0, 3.9, 2, impl.Mesh{
		Places:    append(split.Places[:5:5], vec(0, 2, 0)),
		Triangles: [][]int64{tri(3, 4, 1), tri(2, 5, 4), tri(4, 0, 1), tri(4, 3, 2), tri(5, 0, 4)},
	}, []int64{1, 1})
	flat := meshOf(3, tri(0, 1, 2))
	flat.Places = make([]impl.Vector, 3)
	wantMend(t, "no length is greater than 0", flat, -1, 0, flat, 0)
	wantMend(t, "a length of 0 is greater than -0.5", flat, -1, -0.5, impl.Mesh{
		Places: make([]impl.Vector, 4), Triangles: [][]int64{{0, 3, 2}, {3, 1, 2}},
	}, 1)
	far := meshOf(3, tri(0, 1, 2))
	far.Places[1].X = num(inf)
	next, act, ok := impl.MendOnce(far, -math.MaxFloat32, math.MaxFloat32)
	wantOk(t, "an infinite edge", len(next.Places), ok, 4)
	want(t, "an infinite edge, act", act, 1)
}

func TestMendOnceJoinsWhatIsTooShort(t *testing.T) {
	m := impl.Mesh{Places: []impl.Vector{vec(0, 0, 0), vec(3, 0, 0), vec(0, 4, 0), vec(3, 4, 0)}, Triangles: [][]int64{tri(3, 0, 1), tri(0, 3, 2)}}
	joined := impl.Mesh{Places: []impl.Vector{vec(0, 0, 0), vec(0, 4, 0), vec(3, 4, 0)}, Triangles: [][]int64{tri(0, 2, 1)}}
	wantMend(t, "3.01", m, 3.01, 9, joined, 2)
	wantMend(t, "the number above 3", m, num(0x40400001), 9, joined, 2)
	wantMend(t, "3", m, 3, 9, m, 0)
	wantMend(t, "as long as the longest", m, 3.5, 5, joined, 2)
	wantMends(t, "what is left", m, 100, 100, 64, joined, []int64{2})
	// The lesser place stays, wherever it stands in the triangles.
	m.Triangles = [][]int64{tri(1, 3, 0), tri(3, 2, 0)}
	joined.Triangles = [][]int64{tri(2, 1, 0)}
	wantMend(t, "other triangles", m, 4, 9, joined, 2)
	none := meshOf(3, tri(0, 1, 2))
	none.Places = make([]impl.Vector, 3)
	wantMend(t, "a join that leaves no triangle", none, 1, 9, none, 0)
	whole := tetrahedron()
	wantMend(t, "a join to two equal triangles", whole, 1e30, 1e30, whole, 0)
	// It is not the second shortest edge that is joined instead.
	both, _ := impl.JoinMeshes(whole, m)
	for i := range 4 {
		both.Places[i] = impl.ScaleVector(both.Places[i], 1e-6)
	}
	wantMend(t, "another edge could be joined", both, 1e30, 1e30, both, 0)
}

func TestMendOnceFlipsWhatBecomesShorter(t *testing.T) {
	cross := func(up float32) impl.Mesh {
		return impl.Mesh{
			Places:    []impl.Vector{vec(-2, 0, 0), vec(2, 0, 0), vec(0, up, 0), vec(0, -up, 0)},
			Triangles: [][]int64{tri(2, 0, 1), tri(3, 1, 0)},
		}
	}
	m := cross(1)
	flipped := impl.Mesh{Places: m.Places, Triangles: [][]int64{tri(0, 3, 2), tri(3, 1, 2)}}
	wantMend(t, "a flip", m, 0, 9, flipped, 3)
	wantMends(t, "a flip that does not go back", m, 0, 9, 64, flipped, []int64{3})
	wantMend(t, "a gain of 0", cross(2), 0, 9, cross(2), 0)
	wantMend(t, "a loss", cross(3), 0, 9, cross(3), 0)
	wantMend(t, "a gain that is a not-a-number", cross(num(nan)), 0, 9, cross(num(nan)), 0)
	next := num(0x3fffffff)
	wantMend(t, "the least gain", cross(next), 0, 9, impl.Mesh{Places: cross(next).Places, Triangles: flipped.Triangles}, 3)
	// What is too short cannot be joined, and what is too long cannot be split, so there is a flip.
	whole, _ := impl.JoinMeshes(m, tetrahedron())
	for i := range 4 {
		whole.Places[4+i] = impl.ScaleVector(whole.Places[4+i], 1e-3)
	}
	expected := spare(whole)
	expected.Triangles[0], expected.Triangles[1] = flipped.Triangles[0], flipped.Triangles[1]
	wantMend(t, "no join", whole, 1, 9, expected, 3)
	both, _ := impl.JoinMeshes(pillow(), m)
	both.Places[1].X = 100
	expected = spare(both)
	expected.Triangles[2], expected.Triangles[3] = tri(3, 6, 5), tri(6, 4, 5)
	wantMend(t, "no split", both, 0, 9, expected, 3)
	// It is not the second longest edge that is split instead.
	wantMend(t, "another edge could be split", both, 0, 3, expected, 3)
}

func TestMeshesAtTheirLimitsAreNotSplit(t *testing.T) {
	grid, _ := impl.GridMesh(7, 7, 1)
	grid.Places[9] = vec(1.25, 1, 0)
	last, acts, ok := impl.MendMesh(grid, 0, 0.5, 3)
	wantOk(t, "places of a full grid", len(last.Places), ok, 64)
	if len(acts) == 0 || acts[0] != 3 {
		t.Errorf("acts at a full grid: %v", acts)
	}
	joined, act, ok := impl.MendOnce(grid, 0.9, 0.5)
	wantOk(t, "places of a full grid that is joined", len(joined.Places), ok, 63)
	want(t, "act", act, 2)
	// Then there is room for a split.
	_, acts, ok = impl.MendMesh(grid, 0.9, 0.5, 3)
	wantOk(t, "acts", acts, ok, []int64{2, 1, 2})
	d := dice(15)
	full := d.sheet(30, 128, d.number)
	want(t, "triangles", len(full.Triangles), 128)
	for i, m := range []impl.Mesh{grid, full} {
		expected, act := slowMend(m, 0, 0.01)
		wantMend(t, named("full mesh", i), m, 0, 0.01, expected, act)
		want(t, "act of a full mesh", act, 3)
	}
}

func TestMendingNeedsSheetsAndFiniteNumbers(t *testing.T) {
	fails := func(what string, m impl.Mesh, short, long float32, rounds int64) {
		t.Helper()
		last, acts, ok := impl.MendMesh(m, short, long, rounds)
		wantNone(t, what, last, ok)
		wantNone(t, what, acts, ok)
		if rounds != 1 {
			return
		}
		next, act, ok := impl.MendOnce(m, short, long)
		wantNone(t, what, next, ok)
		wantNone(t, what, act, ok)
	}
	grid := bentGrid()
	for _, x := range nums(inf, negInf, nan, 0xffc00001, 0x7f800001) {
		for rounds := range int64(3) {
			fails(told("short", x), grid, x, 1, rounds)
			fails(told("long", x), grid, 1, x, rounds)
			fails(told("both", x), impl.Mesh{}, x, x, rounds)
		}
	}
	for i, m := range append(noSheets(), invalidMeshes()...) {
		for rounds := range int64(3) {
			fails(named("no sheet", i), m, 0.5, 2, rounds)
			fails(named("no sheet", i), m, -1, math.MaxFloat32, rounds)
		}
	}
	for _, rounds := range []int64{-1, -64, 65, 66, 1 << 32, 1<<32 + 1, math.MinInt64, math.MaxInt64} {
		fails(told("rounds", rounds), grid, 0.5, 2, rounds)
		fails(told("rounds", rounds), impl.Mesh{}, 0.5, 2, rounds)
	}
	for _, x := range nums(0, minusZ, 1, 0x80000001, 0x7f7fffff, 0xff7fffff) {
		for _, y := range []float32{x, 1.5} {
			expected, act := slowMend(grid, x, y)
			wantMend(t, told("finite", x, y), grid, x, y, expected, act)
			expected, act = slowMend(grid, y, x)
			wantMend(t, told("finite", y, x), grid, y, x, expected, act)
		}
	}
}

func TestMendMeshTakesItsRounds(t *testing.T) {
	for i, m := range sheets() {
		wantMends(t, named("no rounds of sheet", i), m, 1, 1, 0, m, nil)
	}
	// One triangle has room for 61 splits, each of which makes it longer by a place.
	m := meshOf(3, tri(0, 1, 2))
	for _, rounds := range []int64{1, 2, 40, 60, 61} {
		last, acts, ok := impl.MendMesh(m, -1, -1, rounds)
		wantOk(t, told("acts of rounds", rounds), acts, ok, repeat[int64](1, int(rounds)))
		want(t, told("places of rounds", rounds), len(last.Places), 3+rounds)
		wantKept(t, told("rounds", rounds), m, last)
	}
	// Where joins make room again, there is an act in each round.
	for _, rounds := range []int64{62, 63, 64} {
		_, acts, ok := impl.MendMesh(bentGrid(), 1e30, -1, rounds)
		wantOk(t, told("number of acts of rounds", rounds), int64(len(acts)), ok, rounds)
	}
	wantMends(t, "empty", impl.Mesh{}, 1, 1, 64, impl.Mesh{}, nil)
	wantMends(t, "places", meshOf(64), 1, 1, 64, meshOf(64), nil)
}

func TestMendsAreThoseOfTheText(t *testing.T) {
	d := dice(16)
	var counts [4]int
	for i, m := range sheets() {
		rounds := int64(4)
		if len(m.Places) > 12 {
			rounds = 1
		}
		for range 3 {
			short, long := d.number()/2, 4+d.number()
			now, acts := m, []int64(nil)
			for range rounds {
				what := told("sheet", i, "mended with", short, long)
				next, act := slowMend(now, short, long)
				counts[act]++
				wantMend(t, what, now, short, long, next, act)
				wantKept(t, what, m, next)
				if act == 0 {
					break
				}
				now, acts = next, append(acts, act)
				wantMends(t, what, m, short, long, int64(len(acts)), now, acts)
			}
		}
	}
	for act, count := range counts {
		if count < 50 {
			t.Errorf("the act %d comes just %d times", act, count)
		}
	}
}

// TestMendedMeshesKeepTheirNumbersOfEuler mends as long as it is allowed.
func TestMendedMeshesKeepTheirNumbersOfEuler(t *testing.T) {
	d := dice(17)
	for i, m := range sheets() {
		for range 3 {
			short, long := d.number()/2, 4+d.number()
			what := told("sheet", i, "mended with", short, long)
			last, acts, ok := impl.MendMesh(m, short, long, 64)
			want(t, what, ok, true)
			wantKept(t, what, m, last)
			want(t, what+", is it a sheet", impl.IsSheet(last), true)
			now, count := m, int64(len(m.Places))
			for _, act := range acts {
				next, got, ok := impl.MendOnce(now, short, long)
				wantOk(t, what+", act", got, ok, act)
				now = next
				switch act {
				case 1:
					count++
				case 2:
					count--
				}
			}
			wantMesh(t, what, now, ok, last.Places, last.Triangles)
			want(t, what+", places", len(last.Places), count)
			if len(acts) < 64 {
				wantMend(t, what+" at last", last, short, long, last, 0)
			}
		}
	}
}
