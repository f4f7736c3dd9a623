package tests

import (
	"math"
	"testing"

	"loop.example/g01222/impl"
)

// wantNeck asks for the neck of a film, or for a failure, and for what follows of it.
func wantNeck(t *testing.T, r rings, expected float32, exists bool) {
	t.Helper()
	neck, ok := impl.NeckOf(r.radius, r.gap)
	if exists {
		wantSum(t, told("neck", r.radius, r.gap), neck, ok, expected)
		return
	}
	wantNoSum(t, told("neck", r.radius, r.gap), neck, ok)
	want(t, told("holding", r.radius, r.gap), impl.IsHolding(r.radius, r.gap), false)
	film, ok := impl.FilmMesh(3, 1, r.radius, r.gap)
	wantNone(t, told("film", r.radius, r.gap), film, ok)
}

// TestNeckOfToTheLastBit has values that were computed outside of the program.
func TestNeckOfToTheLastBit(t *testing.T) {
	for _, c := range []struct {
		radius, gap float32
		neck        uint32
	}{
		{1, 0.5, 0x3f77af73}, {1, 0.1, 0x3f7fadf7}, {1, 1, 0x3f592cad}, {1, 1.25, 0x3f3427e1}, {2.3, 0.9, 0x40105117},
		{2.3, 2.7, 0x3fe092b8}, {0.1, 0.13, 0x3d8366bb}, {1000, 700, 0x446967e7}, {1e-30, 1e-30, 0x0d89a694},
		{1e30, 1e30, 0x712b520b}, {1e30, 1e-30, 0x7149f2ca}, {1e30, 1e-7, 0x7149f2ca}, {3, 0.01, 0x403fffee}, {0.7, 0.9, 0x3eedbdc2},
		// Where a film is hardly less wide than its rings, the last halves are rounded to an even number.
		{1, 1e-30, 0x3f800000}, {1, 1e-5, 0x3f800000}, {num(0x3f800001), 1e-5, 0x3f800000}, {num(0x3f800002), 1e-5, 0x3f800002},
		// At these, one more or one less is wide enough for a film.
		{num(0x3fca1fd9), num(0x3ebb0cfc), 0x3fc8c2e8}, {num(0x3ff5c59c), num(0x3fdccd21), 0x3fd916f1},
		{num(0x3fd6b557), num(0x3f8eda78), 0x3fc9f1cb}, {num(0x3f397262), num(0x3eaa3371), 0x3f3467d4},
		// Subnormal numbers.
		{1, num(2), 0x3f800000}, {1, num(3), 0x3f800000}, {num(2), num(2), 2}, {num(3), num(2), 2}, {num(3), num(3), 2},
		{num(3), num(4), 2}, {num(4), num(4), 3}, {num(5), num(6), 4}, {num(8), num(10), 6}, {num(64), num(80), 0x2d},
		{num(64), num(84), 0x29}, {num(64), num(85), 0x29}, {num(0x00800000), num(0x00a00000), 0x005a13f0},
		{num(0x00800000), num(0x00a9a98e), 0x0046b9e1},
		// A sum that is infinite is no neck, and all halves from then on are infinite as well.
		{math.MaxFloat32, 1, 0x7effffff}, {math.MaxFloat32, num(2), 0x7effffff}, {math.MaxFloat32, num(0x7e000000), 0x7d5563f6},
		{math.MaxFloat32, num(0x7f000000), 0x7e5563f6}, {math.MaxFloat32, math.MaxFloat32, 0x7ed563f5},
		{0x1p127, 0x1p127, 0x7ed92cad}, {num(0x7effffff), num(0x7effffff), 0x7ed92cac}, {0x1p127, 0x1p125, 0x7efdfb40},
		{num(0x7f000001), 0x1p121, 0x7efffe03},
	} {
		wantNeck(t, rings{c.radius, c.gap}, num(c.neck), true)
	}
}

// TestNecksAtTheWidestGap has the last gaps at which films hold on to their rings at all, which are those that WidestGap
// tells. The necks were computed outside of the program.
func TestNecksAtTheWidestGap(t *testing.T) {
	for _, c := range []struct {
		radius    float32
		gap       uint32
		neck, old uint32 // at the gap, and at the one before
	}{
		{1, 0x3fa9a98d, 0x3f0d7995, 0x3f0d7fd0}, {2.3, 0x40431c95, 0x3fa2b20c, 0x3fa2b57d}, {0.1, 0x3e07bad7, 0x3d625f92, 0x3d626a02},
		{1000, 0x44a5af94, 0x440a2022, 0x440a29c2}, {1e-30, 0x0dd71291, 0x0d3353f9, 0x0d335ec0}, {1e30, 0x7185d708, 0x70df30d4, 0x70df36ed},
	} {
		widest, ok := impl.WidestGap(c.radius)
		wantSum(t, told("the widest gap", c.radius), widest, ok, num(c.gap))
		wantNeck(t, rings{c.radius, num(c.gap - 1)}, num(c.old), true)
		wantNeck(t, rings{c.radius, num(c.gap)}, num(c.neck), true)
		for more := uint32(1); more < 1000; more = 2*more + 1 {
			wantNeck(t, rings{c.radius, num(c.gap + more)}, 0, false)
		}
	}
}

func TestRingsThatNoFilmCanJoin(t *testing.T) {
	list := []rings{
		{1, 1.5}, {1, 2}, {1, 3e38}, {math.MaxFloat32, num(1)}, {1, num(1)}, {num(1), num(1)}, {num(1), num(2)}, {num(1), 1}, {num(2), num(1)},
		{num(2), num(3)}, {num(5), num(7)}, {num(8), num(11)}, {num(64), num(86)}, {1e-30, 1}, {1, 1e30}, {1e-10, math.MaxFloat32},
	}
	for _, x := range oddLengths() {
		list = append(list, rings{x, 1}, rings{1, x}, rings{x, x})
		for _, y := range append(oddNumbers(), 0.5) {
			list = append(list, rings{x, y}, rings{y, x})
		}
	}
	for _, r := range someRings() {
		list = append(list, rings{r.radius, r.radius * 1.32549}, rings{r.radius, r.radius * (1.33 + r.gap)})
	}
	for _, r := range list {
		wantNeck(t, r, 0, false)
	}
}

func TestNecksAndHoldsAreThoseOfTheText(t *testing.T) {
	held, broken := 0, 0
	for _, r := range append(someRings(), oddRings()...) {
		neck, exists := slowNeck(r)
		wantNeck(t, r, float32(neck), exists)
		holding := slowHolding(r)
		want(t, told("holding", r.radius, r.gap), impl.IsHolding(r.radius, r.gap), holding)
		if exists && holding {
			held++
		} else if exists {
			broken++
		}
	}
	if held < 100 || broken < 50 {
		t.Errorf("%d films hold, and %d do not", held, broken)
	}
}

// TestNecksAreTheGreatestOnesWithinTheRings looks at necks beside those that are found.
func TestNecksAreTheGreatestOnesWithinTheRings(t *testing.T) {
	films := 0
	for _, r := range someRings() {
		neck, ok := impl.NeckOf(r.radius, r.gap)
		want(t, told("a film", r.radius, r.gap), ok, float64(r.gap) < 1.3254868*float64(r.radius))
		if !ok {
			continue
		}
		films++
		width, _ := impl.WidthAt(neck, r.gap/2)
		wider, _ := impl.WidthAt(math.Nextafter32(neck, r.radius), r.gap/2)
		if !(width <= r.radius && wider > r.radius && width > 0.999999*r.radius && neck < r.radius && neck > 0.55*r.radius) {
			t.Errorf("a neck of %v between rings %v: %v wide, and then %v", neck, r, width, wider)
		}
	}
	if films < 300 {
		t.Errorf("just %d films", films)
	}
}

func TestNecksFallWithTheGap(t *testing.T) {
	for _, radius := range []float32{0.01, 1, 7.7} {
		last, count := radius, 0
		for gap := 0.01 * radius; gap < 1.32*radius; gap += 0.01 * radius {
			neck, ok := impl.NeckOf(radius, gap)
			if !ok || !(neck < last) {
				t.Errorf("the neck %v between rings of %v comes to %v at the gap %v", last, radius, neck, gap)
			}
			last, count = neck, count+1
		}
		want(t, told("gaps", radius), count > 120, true)
	}
}

// TestFilmsScaleExactly scales by powers of two, so that nothing else is rounded.
func TestFilmsScaleExactly(t *testing.T) {
	for _, r := range someRings() {
		neck, ok := impl.NeckOf(r.radius, r.gap)
		if !ok {
			continue
		}
		area, _ := impl.FilmArea(neck, r.gap)
		for _, by := range []float32{2, 0.25, 1024, 0x1p-30, 0x1p40} {
			wantNeck(t, rings{by * r.radius, by * r.gap}, by*neck, true)
			scaled, ok := impl.FilmArea(by*neck, by*r.gap)
			wantSum(t, told("area", r.radius, r.gap, by), scaled, ok, by*by*area)
			want(t, told("holding", r.radius, r.gap, by), impl.IsHolding(by*r.radius, by*r.gap), impl.IsHolding(r.radius, r.gap))
		}
	}
}

// TestFilmArea has values that were computed outside of the program. For the last ones, other bits would come of another
// order, or of numbers that are not rounded on their own.
func TestFilmArea(t *testing.T) {
	for _, c := range []struct{ neck, gap, area float32 }{
		{1, 1, num(0x40daacd2)}, {0.5, 1, num(0x408d6b1f)}, {2, 0.25, num(0x404952ed)}, {0.55, 1.3, num(0x40e81313)},
		{1, 88, num(0x7f432e06)}, {1, 89, num(inf)}, {0.01, 1, num(inf)}, {1e-20, 1, num(inf)}, {1, 1e-20, num(0x1f145b86)},
		{1e20, 1, num(0x61883eb0)}, {1e19, 1e19, num(inf)}, {1.1e38, 1, num(inf)}, {1e38, 1, num(0x7f6c58e0)},
		{1e38, 1e-30, num(0x4d95cd85)}, {1e38, 2, num(inf)}, {num(1), num(1), 0}, {num(1), num(2), 0}, {num(1), 1, num(inf)},
		{1, num(1), num(3)}, {math.MaxFloat32, num(1), num(inf)}, {num(1), math.MaxFloat32, num(inf)},
		{num(0x40112a6e), num(0x3e86c9ca), num(0x40706371)}, {num(0x3fb66566), num(0x3fc19326), num(0x416e274b)},
		{num(0x3feb028c), num(0x3e9e5619), num(0x4064dcaf)},
	} {
		area, ok := impl.FilmArea(c.neck, c.gap)
		wantSum(t, told("area", c.neck, c.gap), area, ok, c.area)
	}
	for _, r := range append(someRings(), oddRings()...) {
		expected, exists := slowFilmArea(float64(r.radius), float64(r.gap))
		area, ok := impl.FilmArea(r.radius, r.gap)
		wantSumIf(t, exists, told("area", r.radius, r.gap), area, ok, expected)
	}
}

// TestDiscsAreaAndWidestGap has values that were computed outside of the program. For the last ones, other bits would
// come of another order, or of numbers that are not 32-bit ones.
func TestDiscsAreaAndWidestGap(t *testing.T) {
	for _, c := range []struct {
		radius     float32
		area, wide uint32
	}{
		{1, 0x40c90fdb, 0x3fa9a98d}, {2, 0x41c90fdb, 0x4029a98d}, {0.5, 0x3fc90fdb, 0x3f29a98d}, {1.5, 0x416231d6, 0x3ffe7e54},
		{1e-20, 0x0006d77f, 0x1e7a609b}, {1e-22, 0x0000002d, 0x1b203dd5}, {1e-23, 0, 0x19803177}, {7e18, 0x7f679ec8, 0x5f00c387},
		{7.4e18, inf, 0x5f081f28}, {1e19, inf, 0x5f37f2c0}, {6e37, inf, 0x7e6f5313}, {3e38, inf, inf}, {math.MaxFloat32, inf, inf},
		{num(1), 0, 1}, {num(2), 0, 3}, {num(0x007fffff), 0, 0x00a9a98c}, {num(0x00800000), 0, 0x00a9a98d},
		{num(0x401a2eb2), 0x4211dd4f, 0x404c5de3}, {num(0x3ff743b4), 0x41bb9306, 0x4023df76}, {num(0x3f47905b), 0x40745e24, 0x3f844278},
		{num(0x403a3251), 0x4254ba2f, 0x4076cd12}, {num(0x3f0815fb), 0x3fe3444b, 0x3f346148}, {num(0x40228862), 0x4222178f, 0x40576f5c},
	} {
		area, ok := impl.DiscsArea(c.radius)
		wantSum(t, told("discs", c.radius), area, ok, num(c.area))
		widest, ok := impl.WidestGap(c.radius)
		wantSum(t, told("the widest gap", c.radius), widest, ok, num(c.wide))
	}
	for _, radius := range oddLengths() {
		area, ok := impl.DiscsArea(radius)
		wantNoSum(t, told("discs", radius), area, ok)
		widest, ok := impl.WidestGap(radius)
		wantNoSum(t, told("the widest gap", radius), widest, ok)
	}
}

// TestFilmsHoldWhileTheyAreSmallerThanDiscs has the last gaps at which they do, which were computed outside of the program.
func TestFilmsHoldWhileTheyAreSmallerThanDiscs(t *testing.T) {
	for _, c := range []struct {
		radius float32
		gap    uint32
	}{{1, 0x3f87172c}, {2.3, 0x401b5aa6}, {0.1, 0x3dd82516}, {1000, 0x4483eca2}} {
		for more := range uint32(7) {
			want(t, told("holding", c.radius, num(c.gap-more)), impl.IsHolding(c.radius, num(c.gap-more)), true)
			want(t, told("holding", c.radius, num(c.gap+1+more)), impl.IsHolding(c.radius, num(c.gap+1+more)), false)
		}
		// Behind this gap, there is still a film, for a while.
		_, ok := impl.NeckOf(c.radius, num(c.gap+1))
		want(t, told("a film", c.radius), ok, true)
	}
	// Areas that are too small or too great for numbers are equal.
	for _, r := range []rings{{1e-30, 1e-30}, {1e30, 1e30}, {1e-30, 1.3e-30}, {1e30, 1.3e30}, {num(2), num(2)}, {math.MaxFloat32, math.MaxFloat32}} {
		want(t, told("holding", r.radius, r.gap), impl.IsHolding(r.radius, r.gap), true)
	}
}
