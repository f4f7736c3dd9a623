package tests

import (
	"fmt"
	"math"
	"testing"

	"loop.example/g01222/impl"
)

func TestTurnMesh(t *testing.T) {
	turned, ok := impl.TurnMesh(meshOf(4, tri(0, 1, 2), tri(3, 2, 1)))
	wantMesh(t, "turned", turned, ok, meshOf(4).Places, [][]int64{{0, 2, 1}, {3, 1, 2}})
	for i, m := range validMeshes() {
		what := fmt.Sprintf("mesh %d", i)
		turned, ok := impl.TurnMesh(m)
		back, _ := impl.TurnMesh(turned)
		wantMesh(t, what+" turned twice", back, ok, m.Places, m.Triangles)
		want(t, what+" turned, sheet", impl.IsSheet(turned), impl.IsSheet(m))
	}
}

func TestNormalOf(t *testing.T) {
	m := impl.Mesh{
		Places:    []impl.Vector{vec(1, 2, 3), vec(2, 4, 6), vec(6, 9, 14), vec(2, 2, 3)},
		Triangles: [][]int64{tri(0, 1, 2), tri(0, 2, 1), tri(1, 2, 0), tri(3, 0, 1)},
	}
	normals := []impl.Vector{vec(1, 4, -3), vec(-1, -4, 3), vec(1, 4, -3), vec(0, 3, -2)}
	for i, expected := range normals {
		normal, ok := impl.NormalOf(m, int64(i))
		wantOk(t, fmt.Sprintf("normal %d", i), normal, ok, expected)
	}
	for _, i := range []int64{-1, 4, 5, 1 << 32, math.MinInt64, math.MaxInt64} {
		normal, ok := impl.NormalOf(m, i)
		wantNone(t, fmt.Sprintf("normal %d", i), normal, ok)
	}
	normal, ok := impl.NormalOf(impl.Mesh{}, 0)
	wantNone(t, "normal of an empty mesh", normal, ok)
}

// TestNormalsAreRounded has sides whose differences and products are not exact.
func TestNormalsAreRounded(t *testing.T) {
	const near, square = 1 + 0x1p-12, 1 + 0x1p-11
	cases := []struct {
		a, b, c, normal impl.Vector
	}{
		{vec(1e8, 0, 0), vec(1e8, 1, 0), vec(1, 0, 0), vec(0, num(minusZ), 1e8)},
		{vec(1, 0, 0), vec(1, 1, 0), vec(1e8, 0, 0), vec(0, 0, -1e8)},
		{vec(0, 0, 0), vec(near, 1, 0), vec(square, near, 0), vec(0, 0, 0)},
		{vec(0, 0, 0), vec(square, near, 0), vec(near, 1, 0), vec(0, 0, 0)},
		{vec(0, 0, 0), vec(1e30, 0, 0), vec(0, 1e30, 0), vec(0, 0, num(inf))},
		{vec(0, 0, 0), vec(num(1), 0, 0), vec(0, 0.5, 0), vec(0, 0, 0)},
		{vec(0, 0, 0), vec(num(inf), 0, 0), vec(0, 1, 0), vec(0, num(nan), num(inf))},
		{vec(num(inf), 0, 0), vec(num(inf), 1, 0), vec(0, 1, 0), vec(0, num(nan), num(nan))},
	}
	for _, c := range cases {
		m := impl.Mesh{Places: []impl.Vector{c.a, c.b, c.c}, Triangles: [][]int64{tri(0, 1, 2)}}
		normal, ok := impl.NormalOf(m, 0)
		wantOk(t, told("normal", c.a, c.b, c.c), normal, ok, c.normal)
	}
}

// legs makes triangles alone, each with a right angle between the legs 2 and one of a list: this is its area.
func legs(list ...float32) impl.Mesh {
	var m impl.Mesh
	for i, leg := range list {
		x := float32(64 * i)
		m.Places = append(m.Places, vec(x, 1, 0), vec(x+2, 1, 0), vec(x, 1, leg))
		m.Triangles = append(m.Triangles, tri(int64(3*i), int64(3*i+1), int64(3*i+2)))
	}
	return m
}

func TestAreasAreSummedFromTheLeft(t *testing.T) {
	cases := []struct {
		m    impl.Mesh
		area float32
	}{
		{impl.Mesh{}, 0},
		{meshOf(64), 0},
		{legs(3), 3},
		{legs(3, -4, 0, 0.5), 7.5},
		{legs(num(minusZ)), 0},
		{legs(16777216, 1, 1), 16777216},
		{legs(1, 1, 16777216), 16777218},
		{legs(1, 16777216, 1), 16777216},
		{legs(1e30, 1), num(inf)},
		{legs(num(inf), 1), num(nan)},
		{legs(1, num(nan), 1), num(nan)},
		{meshOf(3, repeat(tri(0, 0, 0), 0)...), 0},
	}
	for i, c := range cases {
		area, ok := impl.AreaOf(c.m)
		wantSum(t, fmt.Sprintf("area of case %d", i), area, ok, c.area)
	}
	turned, _ := impl.TurnMesh(legs(3, 4))
	area, ok := impl.AreaOf(turned)
	wantSum(t, "area turned over", area, ok, 7)
	many := legs(0.1)
	many.Triangles = repeat(many.Triangles[0], 128)
	area, ok = impl.AreaOf(many)
	wantSum(t, "area of the same 128 times", area, ok, num(0x414cccda))
	var sum float32
	for range 128 {
		sum += 0.1
	}
	wantNumber(t, "the same sum", sum, num(0x414cccda))
}

func TestAreasOfFormsToTheLastBit(t *testing.T) {
	ring, _ := impl.RingMesh(16, 3, 2.3, 0.7)
	long, _ := impl.RingMesh(3, 20, 0.3, 0.01)
	ball, _ := impl.BallMesh(1, 1.1)
	round, _ := impl.BallMesh(1, 1)
	box, _ := impl.BoxMesh(0.5)
	for i, c := range []struct {
		m    impl.Mesh
		bits uint32
	}{{ring, 0x41f13999}, {long, 0x3e9fa038}, {ball, 0x4149b00f}, {round, 0x4126af1d}, {box, 0x3fc00000}} {
		area, ok := impl.AreaOf(c.m)
		wantSum(t, fmt.Sprintf("area of form %d", i), area, ok, num(c.bits))
	}
}

func TestLongsOf(t *testing.T) {
	m := impl.Mesh{
		Places:    []impl.Vector{vec(0, 0, 0), vec(3, 4, 0), vec(3, 4, 12), vec(1, 1, 0), vec(1e30, 0, 0)},
		Triangles: [][]int64{tri(2, 1, 0), tri(0, 3, 1), tri(4, 1, 2)},
	}
	// The edges are 0 1, 0 2, 0 3, 1 2, 1 3, 1 4 and 2 4.
	longs, ok := impl.LongsOf(m)
	wantOk(t, "lengths", longs, ok, []float32{5, 13, num(0x3fb504f3), 12, num(0x4066c15a), num(inf), num(inf)})
	odd := meshOf(3, tri(0, 1, 2))
	odd.Places = []impl.Vector{vec(num(nan), 0, 0), vec(num(inf), 0, 0), vec(num(inf), 1, 0)}
	longs, ok = impl.LongsOf(odd)
	wantOk(t, "odd lengths", longs, ok, nums(nan, nan, nan))
	odd.Places = []impl.Vector{vec(0, 0, 0), vec(1e-30, 0, 0), vec(0, 0, num(negInf))}
	longs, ok = impl.LongsOf(odd)
	wantOk(t, "lengths too small and infinite", longs, ok, nums(0, inf, inf))
	longs, ok = impl.LongsOf(meshOf(9))
	wantOk(t, "no lengths", longs, ok, nil)
}

// TestLongsFollowTheEdges computes each length from chapter 1.
func TestLongsFollowTheEdges(t *testing.T) {
	for i, m := range validMeshes() {
		edges, _ := countedEdges(m)
		var expected []float32
		for _, e := range edges {
			expected = append(expected, impl.LongOf(impl.LessVectors(m.Places[e[0]], m.Places[e[1]])))
		}
		longs, ok := impl.LongsOf(m)
		wantOk(t, fmt.Sprintf("lengths of mesh %d", i), longs, ok, expected)
	}
}

func TestMoveMesh(t *testing.T) {
	m := meshOf(3, tri(2, 0, 1))
	moved, ok := impl.MoveMesh(m, vec(1, -2, 0.5))
	wantMesh(t, "moved", moved, ok, []impl.Vector{vec(1, -2, 0.5), vec(2, -1, 1.5), vec(3, 2, 8.5)}, m.Triangles)
	for i, m := range validMeshes() {
		for _, by := range []impl.Vector{{}, vec(num(minusZ), 1e8, num(1)), vec(num(inf), num(nan), num(negInf))} {
			var places []impl.Vector
			for _, p := range m.Places {
				places = append(places, vec(p.X+by.X, p.Y+by.Y, p.Z+by.Z))
			}
			moved, ok := impl.MoveMesh(m, by)
			wantMesh(t, fmt.Sprintf("mesh %d moved", i), moved, ok, places, m.Triangles)
		}
	}
}

func TestScaleMesh(t *testing.T) {
	m := meshOf(3, tri(2, 0, 1))
	scaled, ok := impl.ScaleMesh(m, -0.5)
	z := num(minusZ)
	wantMesh(t, "scaled", scaled, ok, []impl.Vector{vec(z, z, z), vec(-0.5, -0.5, -0.5), vec(-1, -2, -4)}, m.Triangles)
	for i, m := range validMeshes() {
		for _, by := range []float32{0, num(minusZ), 1, 0.1, -3, num(1), num(inf), num(negInf), num(nan)} {
			var places []impl.Vector
			for _, p := range m.Places {
				places = append(places, vec(p.X*by, p.Y*by, p.Z*by))
			}
			scaled, ok := impl.ScaleMesh(m, by)
			wantMesh(t, fmt.Sprintf("mesh %d scaled", i), scaled, ok, places, m.Triangles)
		}
	}
}

// TestMeasuresScaleExactly scales by powers of two, so that nothing is rounded.
func TestMeasuresScaleExactly(t *testing.T) {
	for i, m := range forms() {
		area, _ := impl.AreaOf(m)
		longs, _ := impl.LongsOf(m)
		for _, by := range []float32{2, 0.25, 1024, -1, -8, 0x1p-20} {
			what := fmt.Sprintf("form %d scaled by %v", i, by)
			scaled, _ := impl.ScaleMesh(m, by)
			got, ok := impl.AreaOf(scaled)
			wantSum(t, what+", area", got, ok, area*by*by)
			expected := make([]float32, len(longs))
			for j, long := range longs {
				expected[j] = long * max(by, -by)
			}
			list, ok := impl.LongsOf(scaled)
			wantOk(t, what+", lengths", list, ok, expected)
			first, _ := impl.NormalOf(m, 0)
			normal, ok := impl.NormalOf(scaled, 0)
			// Zeros may have other signs.
			if !ok || normal != impl.ScaleVector(first, by*by) {
				t.Errorf("%s, normal: %v is no multiple of %v", what, normal, first)
			}
		}
	}
}

func TestMovedAndTurnedMeshesKeepTheirMeasures(t *testing.T) {
	for i, m := range forms() {
		what := fmt.Sprintf("form %d", i)
		area, _ := impl.AreaOf(m)
		longs, _ := impl.LongsOf(m)
		turned, _ := impl.TurnMesh(m)
		got, ok := impl.LongsOf(turned)
		wantOk(t, what+" turned, lengths", got, ok, longs)
		turnedArea, ok := impl.AreaOf(turned)
		wantSum(t, what+" turned, area", turnedArea, ok, area)
		for triangle := range int64(len(m.Triangles)) {
			normal, _ := impl.NormalOf(m, triangle)
			turnedNormal, _ := impl.NormalOf(turned, triangle)
			if impl.AddVectors(normal, turnedNormal) != (impl.Vector{}) {
				t.Errorf("%s turned, normal %d: %v and %v", what, triangle, normal, turnedNormal)
			}
		}
	}
	grid, _ := impl.GridMesh(3, 4, 0.5)
	moved, _ := impl.MoveMesh(grid, vec(1000, -2000, 4000))
	got, ok := impl.AreaOf(moved)
	wantSum(t, "area of a moved grid", got, ok, 3)
}

func TestJoinMeshes(t *testing.T) {
	a, b := meshOf(4, tri(0, 1, 2), tri(3, 2, 1)), meshOf(3, tri(2, 0, 1))
	places := append(append([]impl.Vector{}, a.Places...), b.Places...)
	both, ok := impl.JoinMeshes(a, b)
	wantMesh(t, "both", both, ok, places, [][]int64{{0, 1, 2}, {3, 2, 1}, {6, 4, 5}})
	for _, m := range validMeshes() {
		both, ok = impl.JoinMeshes(m, impl.Mesh{})
		wantMesh(t, "with nothing behind", both, ok, m.Places, m.Triangles)
		both, ok = impl.JoinMeshes(impl.Mesh{}, m)
		wantMesh(t, "with nothing before", both, ok, m.Places, m.Triangles)
	}
}

func TestJoinedMeshesMayReachTheLimits(t *testing.T) {
	for _, a := range []int{0, 1, 31, 32, 33, 63, 64} {
		for _, b := range []int{0, 1, 31, 32, 33, 63, 64} {
			both, ok := impl.JoinMeshes(meshOf(a), meshOf(b))
			what := fmt.Sprintf("%d and %d places", a, b)
			if a+b > 64 {
				wantNone(t, what, both, ok)
			} else {
				wantMesh(t, what, both, ok, append(meshOf(a).Places, meshOf(b).Places...), nil)
			}
		}
	}
	for _, a := range []int{0, 1, 63, 64, 65, 127, 128} {
		for _, b := range []int{0, 1, 63, 64, 65, 127, 128} {
			both, ok := impl.JoinMeshes(meshOf(3, repeat(tri(0, 1, 2), a)...), meshOf(3, repeat(tri(0, 1, 2), b)...))
			what := fmt.Sprintf("%d and %d triangles", a, b)
			if a+b > 128 {
				wantNone(t, what, both, ok)
			} else {
				triangles := append(repeat(tri(0, 1, 2), a), repeat(tri(3, 4, 5), b)...)
				wantMesh(t, what, both, ok, append(meshOf(3).Places, meshOf(3).Places...), triangles)
			}
		}
	}
	for _, m := range invalidMeshes() {
		both, ok := impl.JoinMeshes(m, impl.Mesh{})
		wantNone(t, "an invalid mesh first", both, ok)
		both, ok = impl.JoinMeshes(meshOf(3, tri(0, 1, 2)), m)
		wantNone(t, "an invalid mesh second", both, ok)
	}
}
