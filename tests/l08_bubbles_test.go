package tests

import (
	"math"
	"testing"

	"loop.example/g01222/impl"
)

// TestBubbleRadius has values that were computed outside of the program. For the last ones, other bits would come of
// another order, or of numbers that are not rounded on their own.
func TestBubbleRadius(t *testing.T) {
	for _, c := range []struct {
		volume float32
		radius uint32
	}{
		{4.1887902, 0x3f800000}, {1, 0x3f1ecf4a}, {8, 0x3f9ecf4a}, {33.510323, 0x40000000}, {0.001, 0x3d7e1876}, {1e30, 0x4fb8e0f8},
		{1e-38, 0x2a167a1b}, {num(0x007fffff), 0x2a1ecf42}, {num(0x00800000), 0x2a1ecf42}, {num(3), 0x26a14508},
		// Three times a volume can be infinite, and its quotient can be +0.
		{1.1342745e38, 0x542ecafd}, {num(0x7eaaaaaa), 0x542ecafd}, {num(0x7eaaaaab), inf}, {1.2e38, inf}, {math.MaxFloat32, inf},
		{num(1), 0}, {num(2), 0},
		{num(0x41c18f63), 0x3fe5a975}, {num(0x3fe89e58), 0x3f41ccf6}, {num(0x41e62d25), 0x3ff350e5}, {num(0x418468c1), 0x3fca5bfa},
		{num(0x40a3b72c), 0x3f88d2ca}, {num(0x41e3c370), 0x3ff27679},
	} {
		radius, ok := impl.BubbleRadius(c.volume)
		wantSum(t, told("bubble", c.volume), radius, ok, num(c.radius))
	}
}

func TestBubblesHaveTheirVolumes(t *testing.T) {
	d := dice(35)
	for range 1000 {
		volume := (d.number() + 4.01) * float32(1+d.below(1000))
		radius, ok := impl.BubbleRadius(volume)
		quotient := rounded(rounded(3*float64(volume)) / rounded(4*rounded(3.1415927)))
		wantSum(t, told("bubble", volume), radius, ok, float32(slowExp(rounded(slowLog(quotient)/3))))
		if got := 4 * math.Pi / 3 * math.Pow(float64(radius), 3); math.Abs(got/float64(volume)-1) > 2e-6 {
			t.Errorf("a bubble with the volume %v has %v", volume, got)
		}
	}
	for _, volume := range oddLengths() {
		radius, ok := impl.BubbleRadius(volume)
		wantNoSum(t, told("bubble", volume), radius, ok)
	}
}

// TestBubblePressure has values that were computed outside of the program. For the last ones, other bits would come of
// quotients that are made before products.
func TestBubblePressure(t *testing.T) {
	for _, c := range []struct{ film, radius, pressure float32 }{
		{1, 2, 2}, {-1, 2, -2}, {0, 3, 0}, {num(minusZ), 3, num(minusZ)}, {1, 3, num(0x3faaaaab)}, {0.1, 0.7, num(0x3f124925)},
		{8e37, 2, num(0x7ef0bdc2)}, {1e38, 2, num(inf)}, {-1e38, 1e38, num(negInf)}, {num(0x7e7fffff), 1, math.MaxFloat32}, {0x1p126, 1, num(inf)},
		{1, 1e-39, num(inf)}, {1e-38, 1e38, 0}, {-1e-38, 3e38, num(minusZ)}, {num(1), 4, num(1)}, {num(1), 6, num(1)}, {num(3), 6, num(2)},
		{num(0x80000001), math.MaxFloat32, num(minusZ)}, {math.MaxFloat32, num(1), num(inf)}, {-math.MaxFloat32, math.MaxFloat32, num(negInf)},
		{num(0x3f3eacde), num(0x3fee8716), num(0x3fcca472)}, {num(0xbfd446aa), num(0x3fe4f8db), num(0xc06d5548)},
		{num(0x3f8fb5e2), num(0x401a72da), num(0x3fee338f)},
	} {
		pressure, ok := impl.BubblePressure(c.film, c.radius)
		wantSum(t, told("pressure", c.film, c.radius), pressure, ok, c.pressure)
	}
	for _, film := range append(oddNumbers(), 0.7) {
		for _, radius := range append(oddNumbers(), 0.3) {
			pressure, ok := impl.BubblePressure(film, radius)
			exists := film-film == 0 && isLength(radius)
			wantSumIf(t, exists, told("pressure", film, radius), pressure, ok, rounded(4*float64(film))/float64(radius))
		}
	}
}

// TestPressuresAreTheSlopesOfFilms compares what a gas does when a bubble grows by a little with what its film costs,
// which has two sides.
func TestPressuresAreTheSlopesOfFilms(t *testing.T) {
	for _, film := range []float32{1, 0.03, -2, 17} {
		for _, radius := range []float32{0.01, 0.5, 1, 3, 250} {
			pressure, ok := impl.BubblePressure(film, radius)
			lesser, greater := 0.999*float64(radius), 1.001*float64(radius)
			costs := 2 * float64(film) * 4 * math.Pi * (greater*greater - lesser*lesser)
			does := float64(pressure) * 4 * math.Pi / 3 * (greater*greater*greater - lesser*lesser*lesser)
			if !ok || math.Abs(does/costs-1) > 1e-5 {
				t.Errorf("a film of %v at the radius %v costs %v, and its gas does %v", film, radius, costs, does)
			}
		}
	}
}

// TestWallRadius has values that were computed outside of the program. For the last ones, other bits would come of
// quotients that are made before products.
func TestWallRadius(t *testing.T) {
	for _, c := range []struct{ a, b, wall float32 }{
		{1, 2, 2}, {3, 5, 7.5}, {1, num(0x3f800001), num(0x4b000001)}, {1, num(0x3f7fffff), num(0x4b7fffff)}, {0.1, 0.3, num(0x3e199999)},
		{7, 1, num(0x3f955555)}, {1e30, 1e20, num(inf)}, {1e20, 2e20, num(inf)}, {1e-30, 2e-30, 0}, {1e-30, 1, 1e-30}, {3e38, 1e-30, 1e-30},
		{3e38, 2, num(inf)}, {3e38, 1e-40, 1e-40}, {1e-22, 2e-22, num(0x1b6d2b52)}, {num(1), num(2), 0}, {num(1), 1, num(1)},
		{math.MaxFloat32, num(0x7f7ffffe), num(inf)}, {math.MaxFloat32, num(1), num(1)}, {num(0x00800000), num(0x007fffff), 0},
		{num(0x401d5268), num(0x401a153c), num(0x42e9e0bd)}, {num(0x3f0c66d3), num(0x3f2af5e1), num(0x40445e4e)},
		{num(0x4004566d), num(0x401f2061), num(0x414485a1)},
	} {
		wall, ok := impl.WallRadius(c.a, c.b)
		wantSum(t, told("wall", c.a, c.b), wall, ok, c.wall)
		wall, ok = impl.WallRadius(c.b, c.a)
		wantSum(t, told("wall", c.b, c.a), wall, ok, c.wall)
	}
	for _, a := range append(oddNumbers(), 0.7) {
		for _, b := range append(oddNumbers(), 0.3) {
			wall, ok := impl.WallRadius(a, b)
			exists := isLength(a) && isLength(b) && a != b
			wantSumIf(t, exists, told("wall", a, b), wall, ok, rounded(float64(a)*float64(b))/math.Abs(rounded(float64(a)-float64(b))))
		}
	}
}

func TestWallsNeedDifferentRadii(t *testing.T) {
	for _, radius := range append(greatLengths(), 0.3, 1, 2, 1e20) {
		wall, ok := impl.WallRadius(radius, radius)
		wantNoSum(t, told("wall between equal bubbles", radius), wall, ok)
	}
}

// TestWallsPressAsTheBubblesBesideThem compares the pressure of a wall with the difference of those of both bubbles.
func TestWallsPressAsTheBubblesBesideThem(t *testing.T) {
	for _, c := range [][2]float32{{1, 2}, {2, 1}, {0.3, 0.5}, {7, 100}, {0.01, 3}} {
		wall, ok := impl.WallRadius(c[0], c[1])
		one, _ := impl.BubblePressure(1.5, c[0])
		other, _ := impl.BubblePressure(1.5, c[1])
		between, _ := impl.BubblePressure(1.5, wall)
		if off := math.Abs(float64(one)-float64(other)) - float64(between); !ok || math.Abs(off) > 1e-6*float64(max(one, other)) {
			t.Errorf("bubbles %v press with %v and %v, and the wall with %v", c, one, other, between)
		}
	}
}
