package tests

import (
	"math"
	"slices"
	"strconv"
	"strings"
	"testing"

	"loop.example/g01222/impl"
)

func TestNumbersTextAndBack(t *testing.T) {
	cases := []struct {
		list []float32
		text string
	}{
		{nil, "none"},
		{[]float32{}, "none"},
		{[]float32{0}, "00000000"},
		{nums(minusZ), "80000000"},
		{nums(1, 0x80000001, 0x007fffff), "00000001,80000001,007fffff"},
		{[]float32{1, -2}, "3f800000,c0000000"},
		{nums(inf, negInf, 0x7f7fffff), "7f800000,ff800000,7f7fffff"},
		{nums(nan, nan), "7fc00000,7fc00000"},
		{nums(0x1234abcd, 0x09abcdef), "1234abcd,09abcdef"},
	}
	for _, c := range cases {
		if got, ok := impl.NumbersText(c.list); got != c.text || !ok {
			t.Errorf("text of %v: got %q, %v", c.list, got, ok)
		}
		if got, ok := impl.ReadNumbers(c.text); !sameLists(got, c.list) || !ok {
			t.Errorf("list of %q: got %v, %v", c.text, got, ok)
		}
	}
}

func TestTextsOfNaNsAreOne(t *testing.T) {
	for _, x := range nums(nan, 0xffc00000, 0x7f800001, 0xffffffff) {
		if got, ok := impl.NumbersText([]float32{x}); got != "7fc00000" || !ok {
			t.Errorf("text of %08x: got %q, %v", math.Float32bits(x), got, ok)
		}
	}
}

func TestNumbersAndTextsOfTheGreatestLengths(t *testing.T) {
	most := repeat(float32(1), 256)
	text := strings.Repeat(",3f800000", 256)[1:]
	if got, ok := impl.NumbersText(most); got != text || !ok {
		t.Errorf("256 numbers: %v", ok)
	}
	if got, ok := impl.ReadNumbers(text); !sameLists(got, most) || !ok {
		t.Errorf("text of 256 numbers: %v", ok)
	}
	if got, ok := impl.NumbersText(repeat(float32(1), 257)); got != "" || ok {
		t.Errorf("257 numbers: %v", ok)
	}
	if got, ok := impl.ReadNumbers(text + ",3f800000"); len(got) != 0 || ok {
		t.Errorf("text of 257 numbers: %v", ok)
	}
}

// notNumbers are texts of no lists of numbers; most are almost right.
func notNumbers() []string {
	return []string{
		"", " ", "None", "NONE", "none ", " none", "non", "nonee", "none,none", "none,3f800000", "3f800000,none",
		"3f80000", "3f8000000", "03f800000", "3F800000", "3f80000G", "3f80000g", "3f80000/", "3f80000:", "3f80000`",
		",3f800000", "3f800000,", "3f800000,,3f800000", ",", "3f800000, 3f800000", "3f800000;3f800000", "3f800000\n",
		"3f8000003f800000", "+f800000", "-f800000", "0x3f8000", "3f80_000", "3f80 000", "3f80\x00000",
		"7fc00001", "ffc00000", "7f800001", "ffffffff", "ff800001", "7fffffff", "3f800000,ffc00000",
		"\xff\xff\xff\xff\xff\xff\xff\xff", "3f8000\u00e9", "\uff13f8000", "\u0663f80000", "3f800000\x00",
	}
}

func TestReadNumbersFailsForOtherTexts(t *testing.T) {
	for _, s := range notNumbers() {
		if got, ok := impl.ReadNumbers(s); len(got) != 0 || ok {
			t.Errorf("list of %q: got %v, %v", s, got, ok)
		}
		if got, ok := impl.ReadVector(s + ",00000000,00000000"); (got != impl.Vector{}) || ok {
			t.Errorf("vector of %q: got %v, %v", s, got, ok)
		}
	}
}

func TestVectorTextAndBack(t *testing.T) {
	cases := []struct {
		v    impl.Vector
		text string
	}{
		{impl.Vector{}, "00000000,00000000,00000000"},
		{vec(1, num(minusZ), -2), "3f800000,80000000,c0000000"},
		{vec(num(0xffffffff), num(inf), num(1)), "7fc00000,7f800000,00000001"},
	}
	for _, c := range cases {
		if got := impl.VectorText(c.v); got != c.text {
			t.Errorf("text of %v: %q", c.v, got)
		}
		got, ok := impl.ReadVector(c.text)
		wantVector(t, "vector of "+c.text, got, c.v)
		if !ok {
			t.Errorf("vector of %q failed", c.text)
		}
	}
}

func TestReadVectorTakesThreeNumbers(t *testing.T) {
	const zero = "00000000"
	for _, s := range []string{"none", "", zero, zero + "," + zero, strings.Repeat(zero+",", 3) + zero,
		strings.Repeat(zero+",", 3), "3f800000,00000000,0000000", "none,none,none"} {
		if got, ok := impl.ReadVector(s); (got != impl.Vector{}) || ok {
			t.Errorf("vector of %q: got %v, %v", s, got, ok)
		}
	}
}

func TestIsName(t *testing.T) {
	for _, s := range []string{"a", "z", "arm", "none", "abcdefgh", "zzzzzzzz"} {
		if !impl.IsName(s) {
			t.Errorf("%q is no name", s)
		}
	}
	for _, s := range []string{"", "abcdefghi", "A", "armA", "a1", "a b", " a", "a ", "a\n", "`", "{", "\x00", "\u00e9", "a\xff",
		"\uff41", strings.Repeat("a", 100)} {
		if impl.IsName(s) {
			t.Errorf("%q is a name", s)
		}
	}
}

func TestDecimal(t *testing.T) {
	cases := []struct {
		n    int64
		want string
	}{
		{0, "0"}, {7, "7"}, {-4, "-4"}, {10, "10"}, {-100, "-100"}, {1000000000000000, "1000000000000000"},
		{math.MaxInt64, "9223372036854775807"}, {math.MinInt64, "-9223372036854775808"},
	}
	for _, c := range cases {
		if got := impl.Decimal(c.n); got != c.want {
			t.Errorf("%d: %q", c.n, got)
		}
	}
}

func TestReadDecimal(t *testing.T) {
	for _, n := range []int64{0, 1, -1, 9, 10, -10, 65003, 999999999999999, 1000000000000000, -1000000000000000} {
		if got, ok := impl.ReadDecimal(strconv.FormatInt(n, 10)); got != n || !ok {
			t.Errorf("%d: got %d, %v", n, got, ok)
		}
	}
}

// notDecimals are texts of no numbers from -MaxValue to MaxValue.
func notDecimals() []string {
	return []string{
		"", "-", "+", "-0", "00", "01", "-01", "+1", "--1", "1-", " 1", "1 ", "1\n", "1.0", "1e3", "0x10", "1_000", "1;2", "a", "1a",
		"1000000000000001", "-1000000000000001", "9223372036854775807", "9223372036854775808", "-9223372036854775808",
		"18446744073709551617", "10000000000000000000000000", "\uff11", "\u0661", "1\x00", "\xff", "inf", "None",
	}
}

func TestReadDecimalFailsForOtherTexts(t *testing.T) {
	for _, s := range append(notDecimals(), "none", "1,2", ",") {
		if got, ok := impl.ReadDecimal(s); got != 0 || ok {
			t.Errorf("number of %q: got %d, %v", s, got, ok)
		}
	}
}

func TestListTextAndBack(t *testing.T) {
	cases := []struct {
		list []int64
		text string
	}{
		{nil, "none"},
		{[]int64{}, "none"},
		{[]int64{0}, "0"},
		{[]int64{3, -1, 3}, "3,-1,3"},
		{[]int64{impl.MaxValue, -impl.MaxValue}, "1000000000000000,-1000000000000000"},
		{repeat(int64(5), 64), strings.Repeat(",5", 64)[1:]},
	}
	for _, c := range cases {
		if got, ok := impl.ListText(c.list); got != c.text || !ok {
			t.Errorf("text of %v: got %q, %v", c.list, got, ok)
		}
		if got, ok := impl.ReadList(c.text); !slices.Equal(got, c.list) || !ok {
			t.Errorf("list of %q: got %v, %v", c.text, got, ok)
		}
	}
}

func TestListTextFailsForOtherLists(t *testing.T) {
	for _, list := range [][]int64{{impl.MaxValue + 1}, {-impl.MaxValue - 1}, {1, math.MinInt64}, {math.MaxInt64, 1}, repeat(int64(5), 65)} {
		if got, ok := impl.ListText(list); got != "" || ok {
			t.Errorf("text of %v: got %q, %v", list, got, ok)
		}
	}
}

func TestReadListFailsForOtherTexts(t *testing.T) {
	texts := append(notDecimals(), "none,none", "none,1", "1,none", ",", ",1", "1,", "1,,2", "1, 2", strings.Repeat(",5", 65)[1:])
	for _, s := range texts {
		if got, ok := impl.ReadList(s); len(got) != 0 || ok {
			t.Errorf("list of %q: got %v, %v", s, got, ok)
		}
	}
	for _, s := range notDecimals() {
		if got, ok := impl.ReadList("1," + s); len(got) != 0 || ok {
			t.Errorf("list of 1 and %q: got %v, %v", s, got, ok)
		}
	}
}

func TestCheckOf(t *testing.T) {
	cases := []struct {
		start int64
		s     string
		want  int64
	}{
		{0, "", 0}, {5, "", 5}, {65002, "", 65002},
		{0, "a", 144}, {0, "\x00", 47}, {0, "\xff", 302},
		{1, "a", 845}, {0, "ab", 36086},
		{65002, "a", 64446}, // 701 times -1 and 144
		{92, "\x00", 64539}, {93, "\x00", 237},
		{0, "\u00e9", 39852}, // the bytes c3 and a9
	}
	for _, c := range cases {
		if got, ok := impl.CheckOf(c.start, c.s); got != c.want || !ok {
			t.Errorf("check of %d and %q: got %d, %v; want %d", c.start, c.s, got, ok, c.want)
		}
	}
	for _, start := range []int64{-1, 65003, math.MinInt64, math.MaxInt64} {
		for _, s := range []string{"", "a"} {
			if got, ok := impl.CheckOf(start, s); got != 0 || ok {
				t.Errorf("check of %d: got %d, %v", start, got, ok)
			}
		}
	}
}

func TestCheckOfGoesOnWhereItEnded(t *testing.T) {
	const s = "a film between two rings\nand a ball\xfe\xff"
	whole, ok := impl.CheckOf(17, s)
	for i := range s {
		first, one := impl.CheckOf(17, s[:i])
		second, two := impl.CheckOf(first, s[i:])
		if !ok || !one || !two || second != whole {
			t.Errorf("parts of %d bytes and the rest: %d, not %d", i, second, whole)
		}
	}
}
