package tests

import (
	"fmt"
	"math"
	"strings"
	"testing"

	"loop.example/g01222/impl"
)

// told writes results so that equal ones, and only these, have equal texts.
func told(results ...any) string {
	var b strings.Builder
	for _, r := range results {
		switch x := r.(type) {
		case float32:
			fmt.Fprintf(&b, "%08x ", bitsOf(x))
		case []float32:
			for _, y := range x {
				b.WriteString(told(y))
			}
			fmt.Fprintf(&b, "(%d) ", len(x))
		case impl.Vector:
			b.WriteString(told(x.X, x.Y, x.Z))
		default:
			fmt.Fprintf(&b, "%v ", x)
		}
	}
	return b.String()
}

// shortened keeps long texts out of messages.
func shortened(s string) string { return fmt.Sprintf("%.60q of %d bytes", s, len(s)) }

// twice calls a function two times and reports a panic or different results.
func twice(t *testing.T, what string, call func() string) {
	t.Helper()
	defer func() {
		if r := recover(); r != nil {
			t.Errorf("%s panics: %v", what, r)
		}
	}()
	if a, b := call(), call(); a != b {
		t.Errorf("%s: first %s, then %s", what, a, b)
	}
}

func TestFunctionsOfNumbersReturnEqualResults(t *testing.T) {
	for _, x := range oddNumbers() {
		twice(t, told("number", x), func() string {
			return told(impl.IsFinite(x), impl.BitsOf(x), impl.NextUp(x), impl.NextDown(x), impl.FlushNumber(x), impl.IsSubnormal(x),
				impl.ExpNumber(x), impl.LogNumber(x), impl.RootNumber(x), impl.SineTurns(x))
		})
		for _, y := range oddNumbers() {
			twice(t, told("numbers", x, y), func() string {
				return told(impl.SameNumber(x, y), impl.AngleTurns(y, x))
			})
		}
	}
	for _, x := range []float64{0, 1e-320, 1, -1e40, 1e308, math.Inf(-1), math.NaN()} {
		twice(t, "NarrowNumber", func() string { return told(impl.NarrowNumber(x)) })
	}
	for _, n := range []int64{math.MinInt64, -1, 0, 1, 2143289345, 4294967295, 4294967296, math.MaxInt64} {
		twice(t, "FromBits", func() string { return told(impl.FromBits(n)) })
		twice(t, "Decimal", func() string { return impl.Decimal(n) })
	}
}

func TestFunctionsOfVectorsReturnEqualResults(t *testing.T) {
	odd := oddNumbers()
	for i, x := range odd {
		a := vec(x, odd[(i+7)%len(odd)], odd[(i+13)%len(odd)])
		for j, y := range odd {
			b := vec(odd[(j+5)%len(odd)], y, odd[(j+17)%len(odd)])
			twice(t, told("vectors", a, b), func() string {
				return told(impl.AddVectors(a, b), impl.LessVectors(a, b), impl.ScaleVector(a, y), impl.InnerOf(a, b),
					impl.CrossOf(a, b), impl.LongOf(a), impl.BetweenVectors(a, b, y), impl.SameVector(a, b), impl.VectorText(a))
			})
		}
	}
}

// oddLists are lists of all lengths that matter, each with unused capacity.
func oddLists() [][]float32 {
	lists := [][]float32{nil, {}}
	for _, n := range []int{1, 2, 3, 5, 31, 255, 256, 257, 5000} {
		list := make([]float32, n, n+8)
		for i := range list {
			list[i] = oddNumbers()[i%len(oddNumbers())]
		}
		copy(list[n:n+8], []float32{11, 12, 13, 14, 15, 16, 17, 18})
		lists = append(lists, list)
	}
	return lists
}

func TestFunctionsOfListsLeaveTheirArguments(t *testing.T) {
	lists, kept := oddLists(), oddLists()
	for _, a := range lists {
		twice(t, fmt.Sprintf("list of %d", len(a)), func() string {
			return told(impl.SumNumbers(a)) + told(impl.SumPairs(a)) + told(impl.NumbersText(a))
		})
		for _, b := range lists {
			twice(t, fmt.Sprintf("lists of %d and %d", len(a), len(b)), func() string {
				return told(impl.DotNumbers(a, b)) + told(impl.DotWide(a, b))
			})
		}
	}
	for i, a := range lists {
		if !sameLists(a[:cap(a)], kept[i][:cap(a)]) {
			t.Errorf("a list of %d numbers is changed", len(a))
		}
	}
}

func TestListTextLeavesItsArgument(t *testing.T) {
	for _, n := range []int{0, 1, 63, 64, 65, 5000} {
		for _, item := range []int64{0, -7, impl.MaxValue, -impl.MaxValue - 1, math.MinInt64} {
			list := repeat(item, n+8)
			twice(t, "ListText", func() string { return told(impl.ListText(list[:n])) })
			if told(list) != told(repeat(item, n+8)) {
				t.Errorf("a list of %d times %d is changed", n, item)
			}
		}
	}
}

func TestFunctionsOfTextsReturnEqualResults(t *testing.T) {
	texts := append(notNumbers(), notDecimals()...)
	texts = append(texts, "none", "3f800000,7fc00000,ffffffff", "1,2,3", "arm",
		strings.Repeat(",", 1000000), strings.Repeat("3f800000,", 100000), strings.Repeat("9", 1000000),
		strings.Repeat("a", 1000000), strings.Repeat("\xff", 1000000))
	for _, s := range texts {
		twice(t, shortened(s), func() string {
			return told(impl.ReadVector(s)) + told(impl.ReadNumbers(s)) + told(impl.ReadDecimal(s)) + told(impl.ReadList(s)) +
				told(impl.IsName(s)) + told(impl.CheckOf(3, s))
		})
	}
	for _, start := range []int64{math.MinInt64, -1, 0, 65002, 65003, math.MaxInt64} {
		twice(t, "CheckOf", func() string { return told(impl.CheckOf(start, "abc")) })
	}
}

func TestReadListsAreNewEachTime(t *testing.T) {
	numbers, _ := impl.ReadNumbers("3f800000,40000000")
	list, _ := impl.ReadList("1,2")
	for i := range numbers {
		numbers[i], list[i] = 9, 9
	}
	again, _ := impl.ReadNumbers("3f800000,40000000")
	other, _ := impl.ReadList("1,2")
	if told(again) != told([]float32{1, 2}) || told(other) != told([]int64{1, 2}) {
		t.Errorf("a result that was changed comes again: %v, %v", again, other)
	}
}
