package tests

import (
	"fmt"
	"math"
	"testing"

	"loop.example/g01222/impl"
)

// forms are some of each kind.
func forms() []impl.Mesh {
	var list []impl.Mesh
	add := func(m impl.Mesh, ok bool) {
		if ok {
			list = append(list, m)
		}
	}
	add(impl.GridMesh(1, 1, 0.1))
	add(impl.GridMesh(4, 2, 0.3))
	add(impl.GridMesh(7, 7, 1.7))
	add(impl.RingMesh(3, 1, 0.7, 0.2))
	add(impl.RingMesh(16, 3, 2.3, 0.7))
	add(impl.RingMesh(5, 11, 0.01, 3))
	add(impl.BoxMesh(1.3))
	add(impl.BallMesh(0, 0.9))
	add(impl.BallMesh(1, 1.1))
	return list
}

func TestFormsAreThere(t *testing.T) {
	want(t, "forms", len(forms()), 9)
}

// oddLengths are no lengths.
func oddLengths() []float32 { return nums(0, minusZ, 0x80000001, 0xbf800000, inf, negInf, nan) }

// greatLengths are the least and the greatest lengths.
func greatLengths() []float32 { return nums(1, 0x00800000, 0x7f7fffff) }

// wantForm looks at what all forms have in common.
func wantForm(t *testing.T, what string, m impl.Mesh, ok bool, euler int64, border int) {
	t.Helper()
	if !ok || !impl.ValidMesh(m) || !impl.IsSheet(m) {
		t.Errorf("%s: got %v, valid %v, sheet %v", what, ok, impl.ValidMesh(m), impl.IsSheet(m))
	}
	wantEuler(t, what, m, ok, euler)
	edges, ok := impl.BorderOf(m)
	wantOk(t, what+", edges in the border", len(edges), ok, border)
	_, pieces, ok := impl.PiecesOf(m)
	wantOk(t, what+", pieces", pieces, ok, 1)
}

func TestGridMesh(t *testing.T) {
	grid, ok := impl.GridMesh(2, 1, 0.5)
	wantMesh(t, "grid 2 wide and 1 high", grid, ok,
		[]impl.Vector{vec(0, 0, 0), vec(0.5, 0, 0), vec(1, 0, 0), vec(0, 0.5, 0), vec(0.5, 0.5, 0), vec(1, 0.5, 0)},
		[][]int64{{0, 1, 4}, {0, 4, 3}, {1, 2, 5}, {1, 5, 4}})
	grid, ok = impl.GridMesh(1, 2, 3)
	wantMesh(t, "grid 1 wide and 2 high", grid, ok,
		[]impl.Vector{vec(0, 0, 0), vec(3, 0, 0), vec(0, 3, 0), vec(3, 3, 0), vec(0, 6, 0), vec(3, 6, 0)},
		[][]int64{{0, 1, 3}, {0, 3, 2}, {2, 3, 5}, {2, 5, 4}})
	// 7 times 0.1 is 0.7, but 0.1 added 7 times is the next number above it.
	grid, _ = impl.GridMesh(7, 7, 0.1)
	wantVector(t, "place 7 in row 3", grid.Places[7+8*3], vec(num(0x3f333333), num(0x3e99999a), 0))
	wantVector(t, "place 3 in row 7", grid.Places[3+8*7], vec(num(0x3e99999a), num(0x3f333333), 0))
	grid, _ = impl.GridMesh(2, 2, math.MaxFloat32)
	wantVector(t, "a place too far", grid.Places[5], vec(num(inf), math.MaxFloat32, 0))
}

func TestGridsOfAllSizes(t *testing.T) {
	for wide := range int64(70) {
		for high := range int64(70) {
			what := fmt.Sprintf("grid %d wide and %d high", wide, high)
			grid, ok := impl.GridMesh(wide, high, 0.25)
			if wide < 1 || high < 1 || (wide+1)*(high+1) > 64 {
				wantNone(t, what, grid, ok)
				continue
			}
			wantForm(t, what, grid, ok, 1, int(2*(wide+high)))
			area, ok := impl.AreaOf(grid)
			wantSum(t, what+", area", area, ok, float32(wide*high)/16)
		}
	}
}

func TestGridMeshFails(t *testing.T) {
	for _, n := range []int64{0, -1, math.MinInt64, 32, 64, 1 << 31, 1 << 32, 1<<63 - 1, -1 << 32} {
		grid, ok := impl.GridMesh(n, 1, 1)
		wantNone(t, fmt.Sprintf("grid %d wide", n), grid, ok)
		grid, ok = impl.GridMesh(1, n, 1)
		wantNone(t, fmt.Sprintf("grid %d high", n), grid, ok)
		grid, ok = impl.GridMesh(n, n, 1)
		wantNone(t, fmt.Sprintf("grid %d wide and high", n), grid, ok)
	}
	for _, step := range oddLengths() {
		grid, ok := impl.GridMesh(1, 1, step)
		wantNone(t, told("grid with the step", step), grid, ok)
	}
	for _, step := range greatLengths() {
		grid, ok := impl.GridMesh(1, 1, step)
		wantForm(t, told("grid with the step", step), grid, ok, 1, 4)
	}
}

func TestRingMeshOfFourSides(t *testing.T) {
	z := num(minusZ)
	ring, ok := impl.RingMesh(4, 2, 2, 0.5)
	wantMesh(t, "ring", ring, ok, []impl.Vector{
		vec(2, 0, 0), vec(z, 2, 0), vec(-2, z, 0), vec(0, -2, 0),
		vec(2, 0, 0.5), vec(z, 2, 0.5), vec(-2, z, 0.5), vec(0, -2, 0.5),
		vec(2, 0, 1), vec(z, 2, 1), vec(-2, z, 1), vec(0, -2, 1),
	}, [][]int64{
		{0, 1, 5}, {0, 5, 4}, {1, 2, 6}, {1, 6, 5}, {2, 3, 7}, {2, 7, 6}, {3, 0, 4}, {3, 4, 7},
		{4, 5, 9}, {4, 9, 8}, {5, 6, 10}, {5, 10, 9}, {6, 7, 11}, {6, 11, 10}, {7, 4, 8}, {7, 8, 11},
	})
}

func TestRingMeshToTheLastBit(t *testing.T) {
	ring, ok := impl.RingMesh(3, 1, 1.5, 0.1)
	wantMesh(t, "ring of 3 sides", ring, ok, []impl.Vector{
		vec(1.5, 0, 0), vec(num(0xbf400006), num(0x3fa646e1), 0), vec(num(0xbf3ffffd), num(0xbfa646e2), 0),
		vec(1.5, 0, 0.1), vec(num(0xbf400006), num(0x3fa646e1), 0.1), vec(num(0xbf3ffffd), num(0xbfa646e2), 0.1),
	}, [][]int64{{0, 1, 4}, {0, 4, 3}, {1, 2, 5}, {1, 5, 4}, {2, 0, 3}, {2, 3, 5}})
	sevenths := [][2]uint32{
		{0x40133333, 0x00000000}, {0x3fb78e2f, 0x3fe62bd3}, {0xbf030530, 0x400f8267}, {0xc0049f65, 0x3f7f7882},
		{0xc0049f63, 0xbf7f7888}, {0xbf030530, 0xc00f8268}, {0x3fb78e35, 0xbfe62bd2},
	}
	ring, _ = impl.RingMesh(7, 3, 2.3, 0.7)
	for r, z := range nums(0, 0x3f333333, 0x3fb33333, 0x40066666) {
		for k, at := range sevenths {
			wantVector(t, fmt.Sprintf("place %d in row %d", k, r), ring.Places[k+7*r], vec(num(at[0]), num(at[1]), z))
		}
	}
	ring, _ = impl.RingMesh(6, 1, 1, 1)
	for k, at := range [][2]uint32{
		{0x3f800000, 0x00000000}, {0x3efffffc, 0x3f5db3d8}, {0xbf000004, 0x3f5db3d7},
		{0xbf800000, 0x80000000}, {0xbefffffc, 0xbf5db3d8}, {0x3efffff1, 0xbf5db3d8},
	} {
		wantVector(t, fmt.Sprintf("place %d of 6", k), ring.Places[k], vec(num(at[0]), num(at[1]), 0))
	}
}

func TestRingsOfAllSizes(t *testing.T) {
	for sides := range int64(70) {
		for rows := range int64(70) {
			what := fmt.Sprintf("ring of %d sides and %d rows", sides, rows)
			ring, ok := impl.RingMesh(sides, rows, 2, 0.5)
			if sides < 3 || sides > 16 || rows < 1 || sides*(rows+1) > 64 {
				wantNone(t, what, ring, ok)
				continue
			}
			wantForm(t, what, ring, ok, 0, int(2*sides))
			want(t, what+", places", len(ring.Places), sides*(rows+1))
			want(t, what+", triangles", len(ring.Triangles), 2*sides*rows)
		}
	}
}

func TestRingMeshFails(t *testing.T) {
	for _, n := range []int64{0, -1, -3, math.MinInt64, 17, 64, 1 << 32, 1<<32 + 3, math.MaxInt64} {
		ring, ok := impl.RingMesh(n, 1, 1, 1)
		wantNone(t, fmt.Sprintf("ring of %d sides", n), ring, ok)
		ring, ok = impl.RingMesh(n, n, 1, 1)
		wantNone(t, fmt.Sprintf("ring of %d sides and rows", n), ring, ok)
	}
	for _, n := range []int64{0, -1, math.MinInt64, 21, 64, 1 << 32, 1 << 62, math.MaxInt64, math.MaxInt64 - 1} {
		ring, ok := impl.RingMesh(3, n, 1, 1)
		wantNone(t, fmt.Sprintf("ring of %d rows", n), ring, ok)
	}
	for _, x := range oddLengths() {
		ring, ok := impl.RingMesh(3, 1, x, 1)
		wantNone(t, told("ring with the radius", x), ring, ok)
		ring, ok = impl.RingMesh(3, 1, 1, x)
		wantNone(t, told("ring with the step", x), ring, ok)
	}
	for _, x := range greatLengths() {
		ring, ok := impl.RingMesh(3, 2, x, x)
		wantForm(t, told("ring with the radius and step", x), ring, ok, 0, 6)
	}
}

func TestBoxMesh(t *testing.T) {
	box, ok := impl.BoxMesh(3)
	wantMesh(t, "box", box, ok, []impl.Vector{
		vec(0, 0, 0), vec(3, 0, 0), vec(0, 3, 0), vec(3, 3, 0), vec(0, 0, 3), vec(3, 0, 3), vec(0, 3, 3), vec(3, 3, 3),
	}, [][]int64{
		{0, 2, 3}, {0, 3, 1}, {4, 5, 7}, {4, 7, 6}, {0, 1, 5}, {0, 5, 4},
		{2, 6, 7}, {2, 7, 3}, {0, 4, 6}, {0, 6, 2}, {1, 3, 7}, {1, 7, 5},
	})
	area, ok := impl.AreaOf(box)
	wantSum(t, "area of a box", area, ok, 54)
	for _, size := range oddLengths() {
		box, ok := impl.BoxMesh(size)
		wantNone(t, told("box of the size", size), box, ok)
	}
	for _, size := range append(greatLengths(), 1, 0.1) {
		box, ok := impl.BoxMesh(size)
		wantForm(t, told("box of the size", size), box, ok, 2, 0)
		wantVector(t, "last place", box.Places[7], vec(size, size, size))
	}
}

func TestBallMesh(t *testing.T) {
	ball, ok := impl.BallMesh(0, 3)
	wantMesh(t, "ball", ball, ok,
		[]impl.Vector{vec(3, 0, 0), vec(-3, 0, 0), vec(0, 3, 0), vec(0, -3, 0), vec(0, 0, 3), vec(0, 0, -3)},
		[][]int64{{0, 2, 4}, {2, 1, 4}, {1, 3, 4}, {3, 0, 4}, {2, 0, 5}, {1, 2, 5}, {3, 1, 5}, {0, 3, 5}})
	// The edges are 0 2, 0 3, 0 4, 0 5, 1 2, 1 3, 1 4, 1 5, 2 4, 2 5, 3 4 and 3 5.
	a := num(0x3f471f0c)
	ball, ok = impl.BallMesh(1, 1.1)
	wantMesh(t, "ball of 1 round", ball, ok, []impl.Vector{
		vec(1.1, 0, 0), vec(-1.1, 0, 0), vec(0, 1.1, 0), vec(0, -1.1, 0), vec(0, 0, 1.1), vec(0, 0, -1.1),
		vec(a, a, 0), vec(a, -a, 0), vec(a, 0, a), vec(a, 0, -a), vec(-a, a, 0), vec(-a, -a, 0), vec(-a, 0, a), vec(-a, 0, -a),
		vec(0, a, a), vec(0, a, -a), vec(0, -a, a), vec(0, -a, -a),
	}, [][]int64{
		{0, 6, 8}, {6, 2, 14}, {8, 14, 4}, {6, 14, 8}, {2, 10, 14}, {10, 1, 12}, {14, 12, 4}, {10, 12, 14},
		{1, 11, 12}, {11, 3, 16}, {12, 16, 4}, {11, 16, 12}, {3, 7, 16}, {7, 0, 8}, {16, 8, 4}, {7, 8, 16},
		{2, 6, 15}, {6, 0, 9}, {15, 9, 5}, {6, 9, 15}, {1, 10, 13}, {10, 2, 15}, {13, 15, 5}, {10, 15, 13},
		{3, 11, 17}, {11, 1, 13}, {17, 13, 5}, {11, 13, 17}, {0, 7, 9}, {7, 3, 17}, {9, 17, 5}, {7, 17, 9},
	})
}

func TestBallMeshFails(t *testing.T) {
	for _, rounds := range []int64{-1, 2, 3, 1 << 32, 1<<32 + 1, math.MinInt64, math.MaxInt64} {
		ball, ok := impl.BallMesh(rounds, 1)
		wantNone(t, fmt.Sprintf("ball of %d rounds", rounds), ball, ok)
	}
	for rounds := range int64(2) {
		for _, radius := range oddLengths() {
			ball, ok := impl.BallMesh(rounds, radius)
			wantNone(t, told("ball with the radius", radius), ball, ok)
		}
		for _, radius := range append(greatLengths(), 1, 0.1) {
			ball, ok := impl.BallMesh(rounds, radius)
			wantForm(t, told("ball with the radius", radius), ball, ok, 2, 0)
		}
	}
}

// TestBallsOfOddSizes has radii whose squares are too small or too great.
func TestBallsOfOddSizes(t *testing.T) {
	small, _ := impl.BallMesh(1, 1e-25)
	wantVector(t, "a middle of a small ball", small.Places[6], vec(num(inf), num(inf), num(nan)))
	least, _ := impl.BallMesh(1, num(1))
	wantVector(t, "a middle of the least ball", least.Places[6], vec(num(nan), num(nan), num(nan)))
	great, _ := impl.BallMesh(1, 1e30)
	wantVector(t, "a middle of a great ball", great.Places[7], vec(0, num(minusZ), 0))
}
