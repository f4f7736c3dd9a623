package tests

import (
	"runtime"
	"sync"
	"testing"

	"loop.example/g01222/impl"
)

// torn returns a cloth with some of its threads left.
func torn(c impl.Cloth, left ...int) impl.Cloth {
	threads := c.Threads
	c.Threads = nil
	for _, i := range left {
		c.Threads = append(c.Threads, threads[i])
	}
	return c
}

func wantTorn(t *testing.T, what string, c impl.Cloth, most float32, expected impl.Cloth) {
	t.Helper()
	got, count, ok := impl.TearCloth(c, most)
	wantCloth(t, what, got, ok, expected)
	want(t, what+", how many", count, len(c.Threads)-len(expected.Threads))
}

func wantNoTear(t *testing.T, what string, c impl.Cloth, most float32) {
	t.Helper()
	got, count, ok := impl.TearCloth(c, most)
	wantNone(t, what, got, ok)
	want(t, what+", how many", count, 0)
}

// wovenCloth has threads of all quotients: 0.5, 2, 1.25, +0, an infinity, a not-a-number, 2 again, and the next number.
func wovenCloth() impl.Cloth {
	return clothAt([]impl.Vector{vec(0, 0, 0), vec(2, 0, 0), vec(2, 0, 0), vec(1e20, 0, 0), vec(0, num(nan), 0), vec(0, 3, 4), vec(num(0x40000001), 0, 0)},
		thread(0, 1, 4), thread(0, 1, 1), thread(5, 0, 4), thread(1, 2, 1), thread(0, 3, 1), thread(0, 4, 1), thread(2, 0, 1), thread(6, 0, 1))
}

func TestStretchOf(t *testing.T) {
	c := wovenCloth()
	for _, v := range []struct {
		left     []int
		expected float32
	}{
		{nil, 0}, {[]int{0}, 0.5}, {[]int{1}, 2}, {[]int{0, 1, 2}, 2}, {[]int{2, 0}, 1.25}, {[]int{3}, 0}, {[]int{3, 0}, 0.5}, {[]int{0, 3}, 0.5},
		{[]int{4}, num(inf)}, {[]int{1, 4, 2}, num(inf)}, {[]int{5}, 0}, {[]int{5, 5}, 0}, {[]int{5, 0}, 0.5}, {[]int{0, 5}, 0.5}, {[]int{5, 4, 5}, num(inf)},
		{[]int{1, 7}, num(0x40000001)}, {[]int{7, 1, 5}, num(0x40000001)}, {[]int{0, 1, 2, 3, 4, 5, 6, 7}, num(inf)},
	} {
		stretch, ok := impl.StretchOf(torn(c, v.left...))
		wantSum(t, told("threads", v.left), stretch, ok, v.expected)
		// Pins do not matter.
		stretch, ok = impl.StretchOf(pinnedAt(torn(c, v.left...), 0, 1, 2, 3, 4, 5, 6))
		wantSum(t, told("threads", v.left, "pinned"), stretch, ok, v.expected)
	}
	for i, c := range []impl.Cloth{{}, looseCloth(1), looseCloth(64)} {
		stretch, ok := impl.StretchOf(c)
		wantSum(t, named("no threads", i), stretch, ok, 0)
	}
	// Values that were computed outside of the program.
	for i, expected := range nums(0x3fc0eb6b, 0x3fc7f141, 0x3f8ae6f2, 0x402914c1, 0x4004e9fb, 0x3f711c11, 0x40cf132b, 0x40ada0ad) {
		stretch, ok := impl.StretchOf(torn(mixedCloth(1), i))
		wantSum(t, told("the mixed thread", i), stretch, ok, expected)
	}
	stretch, ok := impl.StretchOf(mixedCloth())
	wantSum(t, "the mixed cloth", stretch, ok, num(0x40cf132b))
	for i, c := range invalidCloths() {
		stretch, ok := impl.StretchOf(c)
		wantNoSum(t, named("the invalid cloth", i), stretch, ok)
	}
}

// TestStretchOfAnyThread puts the longest thread at each index, with as many threads as allowed.
func TestStretchOfAnyThread(t *testing.T) {
	for _, count := range []int{1, 7, 8, 9, 63, 255, 256} {
		for i := range count {
			c := threadAt(vec(0, 0, 0), vec(3, 0, 0), 4)
			c.Threads = repeat(c.Threads[0], count)
			c.Threads[i].Long = 2
			stretch, ok := impl.StretchOf(c)
			wantSum(t, told("thread", i, "of", count), stretch, ok, 1.5)
			wantTorn(t, told("thread", i, "of", count), c, 1, changedCloth(c, func(c *impl.Cloth) {
				c.Threads = append(c.Threads[:i], c.Threads[i+1:]...)
			}))
		}
	}
}

func TestStretchOfIsThatOfTheText(t *testing.T) {
	for i, c := range validCloths() {
		expected := float32(0)
		for _, stretch := range slowStretches(c) {
			if stretch > expected {
				expected = stretch
			}
		}
		stretch, ok := impl.StretchOf(c)
		wantSum(t, named("cloth", i), stretch, ok, expected)
	}
}

// TestStretchOfAStillCloth asks for just 1.
func TestStretchOfAStillCloth(t *testing.T) {
	for i, m := range forms() {
		if c, ok := impl.ClothOf(m); ok {
			stretch, ok := impl.StretchOf(c)
			wantSum(t, named("form", i), stretch, ok, 1)
		}
	}
}

func TestTearCloth(t *testing.T) {
	c := pinnedAt(wovenCloth(), 0, 1)
	n, i, z := num(nan), num(inf), num(minusZ)
	for _, v := range []struct {
		most float32
		left []int
	}{
		// A thread that is stretched just as far is not torn.
		{2, []int{0, 1, 2, 3, 5, 6}}, {num(0x3fffffff), []int{0, 2, 3, 5}}, {num(0x40000001), []int{0, 1, 2, 3, 5, 6, 7}}, {1.25, []int{0, 2, 3, 5}},
		{1, []int{0, 3, 5}}, {0.5, []int{0, 3, 5}}, {0.49, []int{3, 5}}, {0, []int{3, 5}}, {z, []int{3, 5}}, {num(1), []int{3, 5}},
		{-num(1), []int{5}}, {-1, []int{5}}, {-i, []int{5}}, {i, []int{0, 1, 2, 3, 4, 5, 6, 7}}, {n, []int{0, 1, 2, 3, 4, 5, 6, 7}},
		{num(0xffc00001), []int{0, 1, 2, 3, 4, 5, 6, 7}}, {3e38, []int{0, 1, 2, 3, 5, 6, 7}},
	} {
		wantTorn(t, told("most", v.most), c, v.most, torn(c, v.left...))
		wantTorn(t, told("most", v.most, "again"), torn(c, v.left...), v.most, torn(c, v.left...))
	}
	for _, most := range oddNumbers() {
		wantTorn(t, told("no places", most), impl.Cloth{}, most, impl.Cloth{})
		wantTorn(t, told("no threads", most), pinnedAt(looseCloth(64), 5), most, pinnedAt(looseCloth(64), 5))
	}
	for i, c := range invalidCloths() {
		for _, most := range []float32{-1, 0, 1.5, num(inf), num(nan)} {
			wantNoTear(t, told("the invalid cloth", i, most), c, most)
		}
	}
}

// TestOnlyWhatIsStretchedTooFarIsTorn looks at each thread, without the program.
func TestOnlyWhatIsStretchedTooFarIsTorn(t *testing.T) {
	odd := oddNumbers()
	for i, c := range validCloths() {
		stretches := slowStretches(c)
		for j, most := range []float32{1, 1.5, 0, odd[i%len(odd)], -1} {
			if j == 4 && len(stretches) > 0 {
				most = stretches[i%len(stretches)]
			}
			var left []int
			for k, stretch := range stretches {
				if !(stretch > most) {
					left = append(left, k)
				}
			}
			wantTorn(t, told("cloth", i, "most", most), c, most, torn(c, left...))
		}
		// What is left is not stretched farther.
		next, _, _ := impl.TearCloth(c, 1.25)
		if stretch, ok := impl.StretchOf(next); !ok || !(stretch <= 1.25) {
			t.Errorf("cloth %d is torn, and still has the stretch %v", i, stretch)
		}
	}
}

func TestPiecesOfCloth(t *testing.T) {
	cases := []struct {
		places   int
		pairs    [][2]int64
		expected []int64
		count    int64
	}{
		{0, nil, nil, 0}, {1, nil, []int64{0}, 1}, {3, nil, []int64{0, 1, 2}, 3}, {2, [][2]int64{{0, 1}}, []int64{0, 0}, 1},
		{2, [][2]int64{{1, 0}, {0, 1}}, []int64{0, 0}, 1}, {4, [][2]int64{{3, 1}}, []int64{0, 1, 2, 1}, 3},
		{5, [][2]int64{{4, 2}, {0, 4}}, []int64{0, 1, 0, 2, 0}, 3}, {6, [][2]int64{{5, 4}, {4, 3}, {2, 1}}, []int64{0, 1, 1, 2, 2, 2}, 3},
		{6, [][2]int64{{0, 5}, {1, 4}, {2, 3}}, []int64{0, 1, 2, 2, 1, 0}, 3}, {4, [][2]int64{{2, 3}, {0, 1}, {1, 2}}, []int64{0, 0, 0, 0}, 1},
	}
	for _, c := range cases {
		cloth := looseCloth(c.places)
		for _, pair := range c.pairs {
			cloth.Threads = append(cloth.Threads, thread(pair[0], pair[1], 1))
		}
		for _, pinned := range [][]int64{nil, cloth.Pinned} {
			pieces, count, ok := impl.PiecesOfCloth(pinnedAt(cloth, pinned...))
			wantOk(t, told("pieces", c.places, c.pairs), pieces, ok, c.expected)
			want(t, told("how many", c.places, c.pairs), count, c.count)
		}
	}
	for i, c := range invalidCloths() {
		pieces, count, ok := impl.PiecesOfCloth(c)
		wantNone(t, named("pieces of the invalid cloth", i), pieces, ok)
		want(t, named("how many of the invalid cloth", i), count, 0)
	}
}

// slowPieces gives each place the least place it can be reached from, and counts these.
func slowPieces(c impl.Cloth) ([]int64, int64) {
	least := make([]int64, len(c.Places))
	for i := range least {
		least[i] = int64(i)
	}
	for range c.Places {
		for _, t := range c.Threads {
			low := min(least[t.A], least[t.B])
			least[t.A], least[t.B] = low, low
		}
	}
	numbers, pieces := map[int64]int64{}, make([]int64, len(least))
	for i, low := range least {
		if low == int64(i) {
			numbers[low] = int64(len(numbers))
		}
		pieces[i] = numbers[low]
	}
	return pieces, int64(len(numbers))
}

func TestPiecesOfAllCloths(t *testing.T) {
	for i, c := range validCloths() {
		for j, most := range []float32{num(inf), 1.2, 0.5} {
			next, _, _ := impl.TearCloth(c, most)
			expected, count := slowPieces(next)
			pieces, got, ok := impl.PiecesOfCloth(next)
			wantOk(t, told("pieces of cloth", i, j), pieces, ok, expected)
			want(t, told("how many of cloth", i, j), got, count)
		}
	}
	// A cloth has the pieces of its mesh.
	for i, m := range forms() {
		if c, ok := impl.ClothOf(m); ok {
			pieces, count, _ := impl.PiecesOfCloth(c)
			expected, number, _ := impl.PiecesOf(m)
			want(t, named("pieces of form", i), pieces, expected)
			want(t, named("how many of form", i), count, number)
		}
	}
}

// TestTornClothFallsApart cuts a row in the middle by moving one half away.
func TestTornClothFallsApart(t *testing.T) {
	c, _ := impl.GridCloth(3, 1, 1)
	c = changedCloth(c, func(c *impl.Cloth) {
		for _, place := range []int{2, 3, 6, 7} {
			c.Places[place].X += 1
		}
	})
	next, count, ok := impl.TearCloth(c, 1.5)
	wantOk(t, "torn threads", count, ok, 2)
	pieces, number, ok := impl.PiecesOfCloth(next)
	wantOk(t, "pieces", pieces, ok, []int64{0, 0, 1, 1, 0, 0, 1, 1})
	want(t, "how many", number, 2)
}

// TestStretchesAtTheSameTime calls for one cloth from many goroutines.
func TestStretchesAtTheSameTime(t *testing.T) {
	c := thicket()
	most, _ := impl.StretchOf(c)
	expected, count, _ := impl.TearCloth(c, most/2)
	var group sync.WaitGroup
	for i := range 64 {
		group.Go(func() {
			stretch, ok := impl.StretchOf(c)
			wantSum(t, named("stretch", i), stretch, ok, most)
			next, n, ok := impl.TearCloth(c, most/2)
			wantCloth(t, named("torn cloth", i), next, ok, expected)
			want(t, named("torn threads", i), n, count)
		})
	}
	group.Wait()
}

func TestNoMeasuringWorkerIsLeftBehind(t *testing.T) {
	before := runtime.NumGoroutine()
	for i, c := range append(usualCloths()[:20], invalidCloths()[:20]...) {
		impl.StretchOf(c)
		impl.TearCloth(c, 1)
		wantNoneBehind(t, named("cloth", i), before)
	}
}
