package tests

import (
	"math"
	"testing"

	"loop.example/g01222/impl"
)

// lengths makes triangles alone, each with all places on a line: the first side goes from 0 to the first length, and the second one from there
// to the third place at the second length.
func lengths(list ...[2]float32) impl.Mesh {
	var m impl.Mesh
	for i, x := range list {
		m.Places = append(m.Places, vec(0, 0, 0), vec(x[0], 0, 0), vec(x[1], 0, 0))
		m.Triangles = append(m.Triangles, tri(int64(3*i+2), int64(3*i), int64(3*i+1)))
	}
	return m
}

func TestLongestAndShortestEdge(t *testing.T) {
	none := found{}
	edge := func(a, b int64, x float32) found { return found{[]int64{a, b}, float64(x), true} }
	turned := meshOf(4, tri(3, 1, 2))
	turned.Places = []impl.Vector{vec(9, 9, 9), vec(0, 0, 0), vec(3, 4, 0), vec(0, 0, 1)}
	cases := map[string]struct {
		m                 impl.Mesh
		longest, shortest found
	}{
		"no edges":                {meshOf(64), none, none},
		"empty":                   {impl.Mesh{}, none, none},
		"one triangle":            {lengths([2]float32{1, 3}), edge(0, 2, 3), edge(0, 1, 1)},
		"places in another order": {turned, edge(2, 3, float32(math.Sqrt(26))), edge(1, 3, 1)},
		"equal ones":              {lengths([2]float32{1, 2}, [2]float32{-2, -1}, [2]float32{2, 1}), edge(0, 2, 2), edge(0, 1, 1)},
		"without length":          {lengths([2]float32{0, 0}), edge(0, 1, 0), edge(0, 1, 0)},
		"negative coordinates":    {lengths([2]float32{-5, -5}), edge(0, 1, 5), edge(1, 2, 0)},
		"infinite":                {lengths([2]float32{1, num(inf)}), edge(0, 2, num(inf)), edge(0, 1, 1)},
		"too far":                 {lengths([2]float32{-1e30, 1e30}), edge(0, 1, num(inf)), edge(0, 1, num(inf))},
		"a not-a-number at first": {lengths([2]float32{num(nan), 2}, [2]float32{4, 1}), edge(3, 4, 4), edge(3, 5, 1)},
		"a not-a-number at last":  {lengths([2]float32{4, 1}, [2]float32{2, num(nan)}), edge(0, 1, 4), edge(0, 2, 1)},
		"a not-a-number of infinities": {
			lengths([2]float32{num(inf), num(inf)}, [2]float32{1, 3}), edge(0, 1, num(inf)), edge(3, 4, 1),
		},
		"just not-a-numbers": {impl.Mesh{
			Places:    []impl.Vector{vec(num(nan), 0, 0), vec(num(nan), 0, 0), vec(0, num(nan), 0)},
			Triangles: [][]int64{tri(0, 1, 2)},
		}, none, none},
		"just infinities": {impl.Mesh{
			Places:    []impl.Vector{vec(num(inf), 0, 0), vec(0, num(inf), 0), vec(0, 0, num(inf))},
			Triangles: [][]int64{tri(0, 1, 2)},
		}, edge(0, 1, num(inf)), edge(0, 1, num(inf))},
		"no sheet":        {fan(5), slowLongest(fan(5)), slowShortest(fan(5))},
		"the mixed mesh":  {mixedBody().Mesh, edge(2, 4, num(0x4032a0af)), edge(0, 1, num(0x3fada0ad))},
		"the crowded one": {crowdedBody().Mesh, slowLongest(crowdedBody().Mesh), edge(0, 1, num(0x3fada0ad))},
	}
	for what, c := range cases {
		e, x, ok := impl.LongestEdge(c.m)
		wantEdge(t, "longest edge, "+what, e, x, ok, c.longest)
		e, x, ok = impl.ShortestEdge(c.m)
		wantEdge(t, "shortest edge, "+what, e, x, ok, c.shortest)
	}
	for i, m := range invalidMeshes() {
		e, x, ok := impl.LongestEdge(m)
		wantEdge(t, named("longest edge of the invalid mesh", i), e, x, ok, none)
		e, x, ok = impl.ShortestEdge(m)
		wantEdge(t, named("shortest edge of the invalid mesh", i), e, x, ok, none)
	}
}

// TestLongestAndShortestEdgesAreInTheListOfLengths takes meshes that need not be sheets.
func TestLongestAndShortestEdgesAreInTheListOfLengths(t *testing.T) {
	for i, m := range append(oddMeshes(), sheets()...) {
		e, x, ok := impl.LongestEdge(m)
		wantEdge(t, named("longest edge of mesh", i), e, x, ok, slowLongest(m))
		e, y, ok := impl.ShortestEdge(m)
		wantEdge(t, named("shortest edge of mesh", i), e, y, ok, slowShortest(m))
		longs, _ := impl.LongsOf(m)
		least, most := ok, ok
		for _, long := range longs {
			least, most = least || long == y, most || long == x
			if long < y || long > x {
				t.Errorf("mesh %d has the length %v, which is not from %v to %v", i, long, y, x)
			}
		}
		want(t, named("lengths of mesh", i), least && most, ok)
	}
}

func TestThicknessOf(t *testing.T) {
	for _, c := range []struct {
		a, b, c impl.Vector
		thick   float32
	}{
		{vec(0, 0, 0), vec(1, 0, 0), vec(0, 1, 0), num(0x3f5db3d7)},
		{vec(0, 0, 0), vec(0, 0, 8), vec(0, 8, 0), num(0x3f5db3d7)},
		{vec(1, 0, 0), vec(0, 1, 0), vec(0, 0, 1), 1},
		{vec(0, 0, 0), vec(4, 0, 0), vec(2, 0, num(0x405db3d7)), 1},
		{vec(0, 0, 0), vec(1, 0, 0), vec(2, 0, 0), 0},
		{vec(0, 0, 0), vec(1, 0, 0), vec(1, 0, 0), 0},
		{vec(1, 2, 3), vec(1, 2, 3), vec(1, 2, 3), num(nan)},
		{vec(0, 0, 0), vec(1e-30, 0, 0), vec(0, 1e-30, 0), num(nan)},
		{vec(0, 0, 0), vec(1e-20, 0, 0), vec(0, 1e-20, 0), 0},
		{vec(0, 0, 0), vec(1e9, 0, 0), vec(0, 1e9, 0), num(0x3f5db3d7)},
		{vec(0, 0, 0), vec(1e10, 0, 0), vec(0, 1e10, 0), num(inf)},
		{vec(0, 0, 0), vec(1e20, 0, 0), vec(0, 1, 0), num(nan)},
		{vec(0, 0, 0), vec(num(inf), 0, 0), vec(0, 1, 0), num(nan)},
		{vec(num(nan), 0, 0), vec(1, 0, 0), vec(0, 1, 0), num(nan)},
		{vec(0, 0, 0), vec(100, 0, 0), vec(50, 1, 0), num(0x3cbd2932)},
		// Sums in any other order, or quotients before products, would make 3f17ab24 of this.
		{
			vec(num(0x4035d4e4), num(0xc00b8c43), num(0x3b1211c8)), vec(num(0x3edef5e3), num(0xbf90f579), num(0x3c950d88)),
			vec(num(0xbf5bed27), num(0x3e2e73db), num(0xc03facf6)), num(0x3f17ab23),
		},
	} {
		m := impl.Mesh{Places: []impl.Vector{c.a, c.b, c.c}, Triangles: [][]int64{tri(0, 1, 2)}}
		thick, ok := impl.ThicknessOf(m, 0)
		wantSum(t, told("thickness", c.a, c.b, c.c), thick, ok, c.thick)
	}
	for i, bits := range []uint32{0x3f3b00d4, 0x3f4a981c, 0x3f7ae12f} {
		thick, ok := impl.ThicknessOf(mixedBody().Mesh, int64(i))
		wantSum(t, named("thickness of the mixed mesh", i), thick, ok, num(bits))
	}
}

func TestThicknessIsThatOfTheText(t *testing.T) {
	for i, m := range oddMeshes() {
		for k, c := range m.Triangles {
			thick, ok := impl.ThicknessOf(m, int64(k))
			wantSum(t, told("thickness of mesh", i, k), thick, ok, slowThickness(m, c))
		}
		count := int64(len(m.Triangles))
		for _, k := range []int64{-1, count, count + 1, 128, 256, 1 << 32, math.MinInt64, math.MaxInt64} {
			thick, ok := impl.ThicknessOf(m, k)
			wantNoSum(t, told("thickness of mesh", i, k), thick, ok)
		}
	}
	for i, m := range invalidMeshes() {
		thick, ok := impl.ThicknessOf(m, 0)
		wantNoSum(t, named("thickness in the invalid mesh", i), thick, ok)
	}
}

func TestThinTriangles(t *testing.T) {
	m := mixedBody().Mesh
	cases := map[string]struct {
		least float32
		thin  []int64
	}{
		"more than all":           {1, []int64{0, 1, 2}},
		"infinite":                {num(inf), []int64{0, 1, 2}},
		"as thick as the last":    {num(0x3f7ae12f), []int64{0, 1}},
		"the next number":         {num(0x3f7ae130), []int64{0, 1, 2}},
		"as thick as the second":  {num(0x3f4a981c), []int64{0}},
		"as thick as the first":   {num(0x3f3b00d4), nil},
		"next to the first":       {num(0x3f3b00d5), []int64{0}},
		"less than all":           {0, nil},
		"negative":                {num(negInf), nil},
		"a not-a-number":          {num(nan), nil},
		"another not-a-number":    {num(0xffc00001), nil},
		"the least positive ones": {num(1), nil},
	}
	for what, c := range cases {
		thin, ok := impl.ThinTriangles(m, c.least)
		wantOk(t, what, thin, ok, c.thin)
	}
	// Triangles without area are thin, those without sides are not compared.
	flat := lengths([2]float32{0, 0}, [2]float32{1, 3}, [2]float32{2, num(nan)}, [2]float32{2, 2})
	for _, least := range nums(1, 0x3f800000, inf) {
		thin, ok := impl.ThinTriangles(flat, least)
		wantOk(t, told("flat triangles below", least), thin, ok, []int64{1, 3})
	}
	thin, ok := impl.ThinTriangles(flat, 0)
	wantOk(t, "flat triangles below 0", thin, ok, nil)
	thin, ok = impl.ThinTriangles(impl.Mesh{}, 1)
	wantOk(t, "no triangles", thin, ok, nil)
	for i, m := range invalidMeshes() {
		thin, ok := impl.ThinTriangles(m, 1)
		wantNone(t, named("invalid mesh", i), thin, ok)
	}
}

func TestThinTrianglesAreThoseOfTheText(t *testing.T) {
	odd := oddNumbers()
	for i, m := range oddMeshes() {
		for _, least := range []float32{0.2, 0.5, 0.8, 1, odd[i%len(odd)]} {
			var expected []int64
			for k, c := range m.Triangles {
				if slowThickness(m, c) < least {
					expected = append(expected, int64(k))
				}
			}
			thin, ok := impl.ThinTriangles(m, least)
			wantOk(t, told("thin triangles of mesh", i, least), thin, ok, expected)
		}
	}
}
