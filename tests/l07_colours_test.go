package tests

import (
	"testing"

	"loop.example/g01222/impl"
)

// wantColours asks for colours, how many there are, and the springs of each.
func wantColours(t *testing.T, what string, b impl.Body, expected []int64) {
	t.Helper()
	colours, ok := impl.ColoursOf(b)
	wantOk(t, what+", colours", colours, ok, expected)
	classes := make([][]int64, 201)
	for i, colour := range expected {
		classes[colour] = append(classes[colour], int64(i))
	}
	count, ok := impl.CountColours(b)
	wantOk(t, what+", count", count, ok, slowCount(expected))
	for colour, class := range classes {
		got, ok := impl.ColourClass(b, int64(colour))
		wantOk(t, named(what+", springs of colour", colour), got, ok, class)
	}
	if !impl.AreColours(b, expected) {
		t.Errorf("%s: its colours are not allowed", what)
	}
}

func TestColoursOf(t *testing.T) {
	wantColours(t, "a body without places", impl.Body{}, nil)
	wantColours(t, "a body without springs", bodyOf(meshOf(64, tri(0, 1, 2))), nil)
	wantColours(t, "the mixed body", mixedBody(), []int64{0, 1, 1, 0, 2})
	far := func(springs ...impl.Spring) impl.Body { return bodyOf(meshOf(8), springs...) }
	wantColours(t, "springs without common places", far(spring(0, 1, 1, 1), spring(3, 2, 1, 1), spring(4, 7, 1, 1)), []int64{0, 0, 0})
	// Each end can meet each end.
	for i, s := range []impl.Spring{spring(1, 3, 1, 1), spring(3, 1, 1, 1), spring(2, 3, 1, 1), spring(3, 2, 1, 1), spring(1, 2, 1, 1), spring(2, 1, 1, 1)} {
		wantColours(t, named("a common place", i), far(spring(1, 2, 1, 1), s), []int64{0, 1})
	}
	// The last spring meets one of the colour 0 and one of the colour 2, so the least one left is 1.
	gap := far(spring(0, 1, 1, 1), spring(1, 2, 1, 1), spring(1, 3, 1, 1), spring(4, 5, 1, 1), spring(5, 3, 1, 1))
	wantColours(t, "a colour between others", gap, []int64{0, 1, 2, 0, 1})
	wantColours(t, "a triangle and its turn", far(spring(0, 1, 1, 1), spring(1, 2, 1, 1), spring(2, 0, 1, 1), spring(0, 2, 1, 1)), []int64{0, 1, 2, 3})
	// The order of springs matters, and just earlier ones count.
	wantColours(t, "a row", chain(5, 1), []int64{0, 1, 0, 1})
	wantColours(t, "a row from its ends", far(spring(0, 1, 1, 1), spring(3, 4, 1, 1), spring(1, 2, 1, 1), spring(2, 3, 1, 1)), []int64{0, 0, 1, 2})
	wantColours(t, "numbers do not matter", far(spring(0, 1, 0, num(nan)), spring(1, 2, num(inf), num(negInf))), []int64{0, 1})
}

func TestAsManyColoursAsSprings(t *testing.T) {
	var expected []int64
	for i := range int64(200) {
		expected = append(expected, i)
	}
	wantColours(t, "200 springs between two places", rope(), expected)
	wantColours(t, "63 springs from one place", hub(), expected[:63])
	wantColours(t, "32 springs without common places", bundle(), make([]int64, 32))
}

func TestColoursAreThoseOfTheText(t *testing.T) {
	for i, b := range append(append(validBodies(), anyBodies()...), largeBodies()...) {
		wantColours(t, named("body", i), b, slowColours(b))
	}
}

func TestColourClassOfOtherColours(t *testing.T) {
	for i, b := range []impl.Body{{}, mixedBody(), rope(), net()} {
		class, ok := impl.ColourClass(b, 200)
		wantOk(t, named("the greatest colour of body", i), class, ok, nil)
		for _, colour := range badColours() {
			class, ok := impl.ColourClass(b, colour)
			wantNone(t, told("colour", colour, "of body", i), class, ok)
		}
	}
	class, ok := impl.ColourClass(mixedBody(), 3)
	wantOk(t, "a colour that no spring has", class, ok, nil)
	class, ok = impl.ColourClass(rope(), 199)
	wantOk(t, "the last colour of all", class, ok, []int64{199})
}

func TestAreColours(t *testing.T) {
	b := mixedBody()
	for _, colours := range [][]int64{
		{0, 1, 1, 0, 2}, {0, 1, 2, 3, 4}, {4, 3, 2, 1, 0}, {200, 199, 199, 200, 0}, {7, 0, 0, 7, 200}, {0, 1, 2, 0, 1},
	} {
		want(t, told("colours", colours), impl.AreColours(b, colours), true)
	}
	for _, colours := range [][]int64{
		nil, {}, {0}, {0, 1, 1, 0}, {0, 1, 1, 0, 2, 3}, {0, 1, 1, 0, 2, 0}, repeat[int64](7, 5000),
		{0, 0, 1, 2, 3}, {0, 1, 0, 2, 3}, {0, 1, 2, 2, 3}, {0, 1, 2, 3, 2}, {0, 1, 2, 3, 3}, {0, 0, 0, 0, 0}, {200, 200, 1, 0, 2},
	} {
		want(t, told("colours", colours), impl.AreColours(b, colours), false)
	}
	for _, colour := range badColours() {
		for i := range 5 {
			colours := []int64{10, 11, 12, 13, 14}
			colours[i] = colour
			want(t, told("colours", colours), impl.AreColours(b, colours), false)
		}
	}
	want(t, "of a body without springs", impl.AreColours(bodyOf(meshOf(3)), nil), true)
	want(t, "of a body without places", impl.AreColours(impl.Body{}, []int64{}), true)
	want(t, "too many of a body without springs", impl.AreColours(impl.Body{}, []int64{0}), false)
}

// TestAreColoursComparesAllPairs changes one colour after another, to each that is in use.
func TestAreColoursComparesAllPairs(t *testing.T) {
	for i, b := range append(anyBodies()[:60], net(), hub(), crowd()) {
		colours := slowColours(b)
		for j := range colours {
			for colour := range slowCount(colours) + 1 {
				kept := colours[j]
				colours[j] = colour
				apart := true
				for k, s := range b.Springs {
					apart = apart && (k == j || colours[k] != colour || !meet(s, b.Springs[j]))
				}
				if impl.AreColours(b, colours) != apart {
					t.Errorf("body %d, spring %d with colour %d: allowed should be %v", i, j, colour, apart)
				}
				colours[j] = kept
			}
		}
	}
}

func TestColoursOfInvalidBodiesFail(t *testing.T) {
	for i, b := range invalidBodies() {
		colours, ok := impl.ColoursOf(b)
		wantNone(t, named("colours of the invalid body", i), colours, ok)
		count, ok := impl.CountColours(b)
		wantNone(t, named("count of the invalid body", i), count, ok)
		class, ok := impl.ColourClass(b, 0)
		wantNone(t, named("springs of the invalid body", i), class, ok)
		for _, colours := range [][]int64{nil, make([]int64, len(b.Springs)), {0, 1}} {
			want(t, named("colours of the invalid body", i), impl.AreColours(b, colours), false)
		}
	}
}
