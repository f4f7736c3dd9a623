package tests

import (
	"math"
	"testing"

	"loop.example/g01222/impl"
)

type sumCase struct {
	list        []float32
	left, pairs uint32
}

func listOf(list ...float32) []float32 { return list }

func TestSumsAreToldByTheirOrders(t *testing.T) {
	const one, two = 0x3f800000, 0x40000000
	cases := []sumCase{
		{nil, 0, 0},
		{[]float32{}, 0, 0},
		{listOf(2), two, two},
		// +0 and -0 make +0, but a pair of -0 makes -0.
		{nums(minusZ), 0, minusZ},
		{nums(minusZ, minusZ), 0, minusZ},
		{nums(minusZ, minusZ, minusZ), 0, minusZ},
		{nums(minusZ, 0), 0, 0},
		{listOf(1, -1), 0, 0},
		// 100000000 and 1 make 100000000 in 32 bits.
		{listOf(1e8, 1, -1e8), 0, 0},
		{listOf(1, 1e8, -1e8), 0, 0},
		{listOf(1e8, -1e8, 1), one, one},
		{listOf(1e8, 1, -1e8, 1), one, 0},
		{listOf(1, 1e8, 1, -1e8), 0, 0},
		{listOf(1e8, 1, 1, -1e8), 0, 0},
		{listOf(1, 1, 1e8, -1e8), 0, two},
		// The first half has one number more.
		{listOf(0, 0, 1, 1e8, -1e8), 0, one},
		{listOf(0, 0, 1, 0, 1e8, -1e8, 0), 0, one},
		{listOf(0, 0, 0, 1, 1e8, 0, -1e8), 0, one},
		{listOf(1e8, -1e8, 0, 0, 1), one, one},
		// Ties to even: 16777216 and 1 make 16777216, 16777218 and 1 make 16777220.
		{listOf(16777216, 1), 0x4b800000, 0x4b800000},
		{listOf(16777218, 1), 0x4b800002, 0x4b800002},
		{listOf(16777216, 1, 1), 0x4b800000, 0x4b800000},
		{listOf(1, 1, 16777216), 0x4b800001, 0x4b800001},
		// Subnormal numbers are added as they are.
		{nums(1, 1, 1), 3, 3},
		{nums(0x00800000, 0x80000001), 0x007fffff, 0x007fffff},
		{listOf(math.MaxFloat32, math.MaxFloat32), inf, inf},
		{listOf(math.MaxFloat32, math.MaxFloat32, -math.MaxFloat32), inf, inf},
		{listOf(math.MaxFloat32, math.MaxFloat32, -math.MaxFloat32, -math.MaxFloat32), inf, nan},
		{nums(inf, one), inf, inf},
		{nums(inf, negInf), nan, nan},
		{nums(one, nan, one), nan, nan},
		{nums(0x7f800001), nan, nan},
	}
	for _, c := range cases {
		got, ok := impl.SumNumbers(c.list)
		wantSum(t, "sum from the left", got, ok, num(c.left))
		got, ok = impl.SumPairs(c.list)
		wantSum(t, "sum of pairs", got, ok, num(c.pairs))
	}
}

// pairsOf says again what SumPairs is, by counting from the front.
func pairsOf(list []float32) float32 {
	n := len(list)
	if n == 0 {
		return 0
	}
	if n == 1 {
		return list[0]
	}
	first := n / 2
	if n%2 == 1 {
		first++
	}
	return pairsOf(list[:first]) + pairsOf(list[first:])
}

func TestSumsOfAllLengths(t *testing.T) {
	for n := 0; n <= impl.MaxNumbers; n++ {
		list := make([]float32, n)
		var left float32
		for i := range list {
			list[i] = float32(i*i%37) / 7
			left += list[i]
		}
		got, ok := impl.SumNumbers(list)
		wantSum(t, "sum from the left", got, ok, left)
		got, ok = impl.SumPairs(list)
		wantSum(t, "sum of pairs", got, ok, pairsOf(list))
	}
}

func TestSumsOfTooManyFail(t *testing.T) {
	most, more := repeat(float32(1), 256), repeat(float32(1), 257)
	got, ok := impl.SumNumbers(most)
	wantSum(t, "sum", got, ok, 256)
	got, ok = impl.SumPairs(most)
	wantSum(t, "pairs", got, ok, 256)
	got, ok = impl.DotNumbers(most, most)
	wantSum(t, "dot", got, ok, 256)
	got, ok = impl.DotWide(most, most)
	wantSum(t, "dot wide", got, ok, 256)
	got, ok = impl.SumNumbers(more)
	wantNoSum(t, "sum", got, ok)
	got, ok = impl.SumPairs(more)
	wantNoSum(t, "pairs", got, ok)
	got, ok = impl.DotNumbers(more, more)
	wantNoSum(t, "dot", got, ok)
	got, ok = impl.DotWide(more, more)
	wantNoSum(t, "dot wide", got, ok)
}

func TestDotsOfDifferentLengthsFail(t *testing.T) {
	lists := [][]float32{nil, {1}, {1, 2}, repeat(float32(1), 256), repeat(float32(1), 257)}
	for i, a := range lists {
		for j, b := range lists {
			if i == j {
				continue
			}
			got, ok := impl.DotNumbers(a, b)
			wantNoSum(t, "dot", got, ok)
			got, ok = impl.DotWide(a, b)
			wantNoSum(t, "dot wide", got, ok)
		}
	}
}

func TestDotsRoundAsTold(t *testing.T) {
	const near, square = 1 + 0x1p-12, 1 + 0x1p-11 // the square of near is 2 to the power of -24 more
	const great = math.MaxFloat32
	cases := []struct {
		a, b         []float32
		narrow, wide uint32
	}{
		{nil, []float32{}, 0, 0},
		{listOf(1, 2), listOf(3, 4), 0x41300000, 0x41300000},
		{listOf(-3), listOf(2), 0xc0c00000, 0xc0c00000},
		{nums(minusZ), listOf(1), 0, 0},
		{nums(minusZ, minusZ), listOf(1, 1), 0, 0},
		// A product is rounded before it is added.
		{listOf(-square, near), listOf(1, near), 0, 0x33800000},
		{listOf(near, -square), listOf(near, 1), 0, 0x33800000},
		{listOf(square, -near), listOf(1, near), 0, 0xb3800000},
		// 64-bit sums are from left to right, too.
		{listOf(1e8, 1, -1e8), listOf(1, 1, 1), 0, 0x3f800000},
		{listOf(1e8, 1, -1e8), listOf(1e8, 1, 1e8), 0, 0},
		{listOf(1e8, -1e8, 1), listOf(1e8, 1e8, 1), 0x3f800000, 0x3f800000},
		// Only the last number is narrowed.
		{listOf(great, -great), listOf(2, 2), nan, 0},
		{listOf(great), listOf(2), inf, inf},
		{nums(1, 1), listOf(0.5, 0.5), 0, 1},
		{nums(0x80000001), listOf(0.5), 0, minusZ},
		{nums(0x80000001, 0), listOf(0.5, 1), 0, minusZ},
		{nums(inf), listOf(0), nan, nan},
		{nums(inf, negInf), listOf(1, 1), nan, nan},
		{nums(negInf), listOf(2), negInf, negInf},
		{nums(nan), listOf(0), nan, nan},
	}
	for _, c := range cases {
		got, ok := impl.DotNumbers(c.a, c.b)
		wantSum(t, "dot", got, ok, num(c.narrow))
		got, ok = impl.DotWide(c.a, c.b)
		wantSum(t, "dot wide", got, ok, num(c.wide))
	}
}
