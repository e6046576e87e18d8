package cwnd

import (
	"math"
	"math/rand"
	"sync"
	"testing"
)

// first is the window at first, as the chapter tells it.
var first = Window{512, 2000, 0}

// notGood is windows that aren't good.
var notGood = []Window{
	{},
	{0, 2000, 0},
	{127, 2000, 0},
	{8193, 2000, 0},
	{-512, 2000, 0},
	{math.MinInt64, 2000, 0},
	{math.MaxInt64, 2000, 0},
	{1<<32 + 512, 2000, 0},
	{700, 0, 0},
	{700, 127, 0},
	{700, 8193, 0},
	{700, -2000, 0},
	{700, math.MinInt64, 0},
	{700, math.MaxInt64, 0},
	{700, 1<<32 + 2000, 0},
	{700, 2000, -1},
	{700, 2000, 1<<31 + 1},
	{700, 2000, 1 << 32},
	{3000, 2000, math.MinInt64},
	{3000, 2000, math.MaxInt64},
	{8193, 8193, 1<<31 + 1},
	{127, 127, -1},
}

// good is windows that are good, at the edges too.
var good = []Window{
	{512, 2000, 0},
	{128, 128, 0},
	{8192, 8192, 1 << 31},
	{8192, 128, 0},
	{128, 8192, 0},
	{8192, 128, 1 << 31},
	{8191, 128, 1<<31 - 1},
	{129, 128, 1},
	{700, 700, 5},
	{701, 700, 5},
	{699, 700, 5},
	{511, 512, 3},
	{1023, 512, 1022},
	{1024, 512, 1023},
	{1025, 512, 1024},
	{2660, 2000, 2168},
}

// numbers is arguments, the edges among them.
var numbers = []int{
	math.MinInt64, -1 << 32, -512, -1, 0, 1, 100, 127, 128, 129, 511, 512, 513, 1000, 2660, 8191, 8192, 8193,
	1<<20 - 1, 1 << 20, 1<<20 + 1, 1<<31 + 5, 1 << 32, 1<<32 + 1, math.MaxInt64,
}

// slowGood is whether a window is good, by the chapter's words.
func slowGood(w Window) bool {
	size := 128 <= w.Size && w.Size <= 64*128
	threshold := 128 <= w.Threshold && w.Threshold <= 64*128
	count := 0 <= w.Count && w.Count <= 2147483648
	return size && threshold && count
}

// slowOf is what is taken for a window: itself, or First.
func slowOf(w Window) Window {
	if slowGood(w) {
		return w
	}
	return first
}

// slowNumber is what a number of bytes counts as.
func slowNumber(n int) int {
	if n < 0 {
		return 0
	}
	if n > 1048576 {
		return 1048576
	}
	return n
}

// slowAcked is Acked by the chapter's words.
func slowAcked(w Window, n, flight int) Window {
	w, n, flight = slowOf(w), slowNumber(n), slowNumber(flight)
	was := w.Size
	switch {
	case flight < was:
		return w
	case was <= w.Threshold && n < 128:
		w.Size += n
	case was <= w.Threshold:
		w.Size += 128
	default:
		w.Count += n
		if w.Count > 2147483648 {
			w.Count = 2147483648
		}
		if !(w.Count < was) {
			w.Size += 128
			w.Count -= was
		}
	}
	if w.Size > 8192 {
		w.Size = 8192
	}
	return w
}

// slowHalf is half of a size, rounded down, at least 4 units.
func slowHalf(size int) int {
	half := int(math.Floor(float64(size) / 2))
	if half < 4*128 {
		return 4 * 128
	}
	return half
}

// slowLost is Lost by the chapter's words.
func slowLost(w Window) Window {
	w = slowOf(w)
	w.Threshold = slowHalf(w.Size)
	w.Size = w.Threshold
	w.Count = 0
	return w
}

// slowLate is Late by the chapter's words.
func slowLate(w Window) Window {
	w = slowOf(w)
	w.Threshold = slowHalf(w.Size)
	w.Size = 128
	w.Count = 0
	return w
}

// slowIdle is Idle by the chapter's words.
func slowIdle(w Window) Window {
	w = slowOf(w)
	if w.Size >= 4*128 {
		w.Size = slowHalf(w.Size)
	}
	w.Count = 0
	return w
}

// slowEmpty is Empty by the chapter's words.
func slowEmpty(w Window) Window {
	w = slowOf(w)
	w.Count = 0
	return w
}

// slowRoom is Room by the chapter's words.
func slowRoom(w Window, flight int) int {
	room := slowOf(w).Size - slowNumber(flight)
	if room < 0 {
		return 0
	}
	return room
}

// all is all windows of the lists above.
func all() []Window { return append(good[:len(good):len(good)], notGood...) }

// anyGood is some good window; edges come often.
func anyGood(r *rand.Rand) Window {
	w := Window{some(r), some(r), 0}
	switch r.Intn(4) {
	case 0:
		w.Count = r.Intn(1<<31 + 1)
	case 1:
		w.Count = r.Intn(10000)
	case 2:
		w.Count = 1<<31 - r.Intn(10000)
	}
	if r.Intn(3) == 0 {
		w.Threshold = min(max(w.Size-2+r.Intn(5), 128), 8192)
	}
	return w
}

// some is some size: small, great, or any.
func some(r *rand.Rand) int {
	switch r.Intn(3) {
	case 0:
		return 128 + r.Intn(1200)
	case 1:
		return 8192 - r.Intn(300)
	}
	return 128 + r.Intn(8192-127)
}

// near is some number of bytes, often near to another one.
func near(r *rand.Rand, to int) int {
	switch r.Intn(5) {
	case 0:
		return to - 2 + r.Intn(5)
	case 1:
		return r.Intn(300)
	case 2:
		return r.Intn(1<<20 + 1000)
	case 3:
		return r.Intn(12000)
	}
	return numbers[r.Intn(len(numbers))]
}

// same tells of a window that isn't the one that is asked.
func same(t *testing.T, name string, w, got, want Window) {
	t.Helper()
	if got != want {
		t.Error(name, w, "is", got, "not", want)
	}
}

// checkAll holds all calls of a window against the slow ones.
func checkAll(t *testing.T, w Window, n, flight int) {
	t.Helper()
	if Good(w) != slowGood(w) {
		t.Error("Good", w)
	}
	if got, want := w.Acked(n, flight), slowAcked(w, n, flight); got != want {
		t.Error("Acked", w, n, flight, "is", got, "not", want)
	}
	same(t, "Lost", w, w.Lost(), slowLost(w))
	same(t, "Late", w, w.Late(), slowLate(w))
	same(t, "Idle", w, w.Idle(), slowIdle(w))
	same(t, "Empty", w, w.Empty(), slowEmpty(w))
	if got, want := w.Room(flight), slowRoom(w, flight); got != want {
		t.Error("Room", w, flight, "is", got, "not", want)
	}
	if slow := slowOf(w).Size <= slowOf(w).Threshold; w.Slow() != slow {
		t.Error("Slow", w)
	}
}

// P12.1: First is 4 units, with the threshold 2000; the unit is 128 bytes.
func TestFirst(t *testing.T) {
	if w := First(); w != first || !Good(w) || !w.Slow() || Unit != 128 {
		t.Error(w, Unit)
	}
}

// P12.1: Good tells the bounds, each at its edge.
func TestGood(t *testing.T) {
	for _, w := range good {
		if !Good(w) {
			t.Error("good:", w)
		}
	}
	for _, w := range notGood {
		if Good(w) {
			t.Error("not good:", w)
		}
	}
}

// P12.1: Good answers by the chapter's words near all edges.
func TestGoodNearEdges(t *testing.T) {
	sizes := []int{-128, -1, 0, 1, 64, 127, 128, 129, 512, 8064, 8191, 8192, 8193, 8320, 16384}
	counts := []int{-1 << 31, -1, 0, 1, 8192, 8193, 1<<31 - 1, 1 << 31, 1<<31 + 1, 1<<32 - 1, 1 << 32}
	yes, no := 0, 0
	for _, size := range sizes {
		for _, threshold := range sizes {
			for _, count := range counts {
				w := Window{size, threshold, count}
				if Good(w) != slowGood(w) {
					t.Error(w)
				}
				if Good(w) {
					yes++
				} else {
					no++
				}
			}
		}
	}
	if yes == 0 || no == 0 {
		t.Error(yes, no)
	}
}

// P12.1: Acked answers what another program reckoned, one behind the other.
func TestAckedOneBehindTheOther(t *testing.T) {
	w := First()
	for i, c := range []struct {
		n, flight int
		want      Window
	}{
		{100, 512, Window{612, 2000, 0}},
		{128, 612, Window{740, 2000, 0}},
		{129, 740, Window{868, 2000, 0}},
		{1000, 868, Window{996, 2000, 0}},
		{0, 996, Window{996, 2000, 0}},
		{-5, 996, Window{996, 2000, 0}},
		{128, 995, Window{996, 2000, 0}},
		{400, 996, Window{1124, 2000, 0}},
		{400, 2000, Window{1252, 2000, 0}},
		{400, 2000, Window{1380, 2000, 0}},
		{400, 2000, Window{1508, 2000, 0}},
		{400, 2000, Window{1636, 2000, 0}},
		{400, 2000, Window{1764, 2000, 0}},
		{400, 2000, Window{1892, 2000, 0}},
		{400, 1099511627776, Window{2020, 2000, 0}},
		{84, 2000, Window{2020, 2000, 0}},
		{2047, 5000, Window{2148, 2000, 27}},
		{100, 5000, Window{2148, 2000, 127}},
		{1, 5000, Window{2148, 2000, 128}},
		{2200, 2275, Window{2276, 2000, 180}},
		{2200, 2276, Window{2404, 2000, 104}},
		{5000, 9000, Window{2532, 2000, 2700}},
		{2000, 9000, Window{2660, 2000, 2168}},
	} {
		w = w.Acked(c.n, c.flight)
		if w != c.want {
			t.Fatal(i, c, w)
		}
	}
	same(t, "Lost", w, w.Lost(), Window{1330, 1330, 0})
}

// P12.1: Acked at the edges: a window that isn't used whole, at the threshold,
// at the greatest size, at the greatest count, and with numbers out of bounds.
func TestAckedAtEdges(t *testing.T) {
	for _, c := range []struct {
		w         Window
		n, flight int
		want      Window
	}{
		{Window{700, 700, 9}, 128, 699, Window{700, 700, 9}},
		{Window{700, 700, 9}, 128, 700, Window{828, 700, 9}},
		{Window{700, 700, 9}, 127, 700, Window{827, 700, 9}},
		{Window{700, 700, 9}, 129, 700, Window{828, 700, 9}},
		{Window{700, 700, 9}, math.MinInt64, 700, Window{700, 700, 9}},
		{Window{700, 700, 9}, math.MaxInt64, 700, Window{828, 700, 9}},
		{Window{700, 700, 9}, 5, math.MaxInt64, Window{705, 700, 9}},
		{Window{700, 700, 9}, 5, math.MinInt64, Window{700, 700, 9}},
		{Window{701, 700, 9}, 128, 701, Window{701, 700, 137}},
		{Window{701, 700, 9}, 691, 701, Window{701, 700, 700}},
		{Window{701, 700, 9}, 692, 701, Window{829, 700, 0}},
		{Window{701, 700, 9}, 693, 701, Window{829, 700, 1}},
		{Window{701, 700, 9}, 692, 700, Window{701, 700, 9}},
		{Window{701, 700, 701}, 0, 701, Window{829, 700, 0}},
		{Window{701, 700, 5000}, 0, 701, Window{829, 700, 4299}},
		{Window{701, 700, 0}, 1 << 20, 701, Window{829, 700, 1047875}},
		{Window{701, 700, 0}, 1<<20 + 1, 701, Window{829, 700, 1047875}},
		{Window{701, 700, 0}, math.MaxInt64, 701, Window{829, 700, 1047875}},
		{Window{701, 700, 1 << 31}, 0, 701, Window{829, 700, 2147482947}},
		{Window{701, 700, 1 << 31}, 1 << 20, 701, Window{829, 700, 2147482947}},
		{Window{701, 700, 1<<31 - 1}, 1, 701, Window{829, 700, 2147482947}},
		{Window{701, 700, 1<<31 - 2}, 1, 701, Window{829, 700, 2147482946}},
		{Window{8192, 8192, 0}, 500, 8192, Window{8192, 8192, 0}},
		{Window{8191, 8192, 0}, 500, 8192, Window{8192, 8192, 0}},
		{Window{8064, 8192, 0}, 500, 8192, Window{8192, 8192, 0}},
		{Window{8063, 8192, 0}, 500, 8192, Window{8191, 8192, 0}},
		{Window{8192, 128, 10}, 8182, 8192, Window{8192, 128, 0}},
		{Window{8192, 128, 10}, 8181, 8192, Window{8192, 128, 8191}},
		{Window{8192, 128, 10}, 8185, 8191, Window{8192, 128, 10}},
		{Window{8100, 128, 10}, 8100, 8100, Window{8192, 128, 10}},
		{Window{128, 128, 3}, 10, 128, Window{138, 128, 3}},
		{Window{129, 128, 3}, 300, 129, Window{257, 128, 174}},
		{Window{}, 100, 511, Window{512, 2000, 0}},
		{Window{}, 100, 512, Window{612, 2000, 0}},
		{Window{701, 700, -1}, 692, 701, Window{640, 2000, 0}},
	} {
		if got := c.w.Acked(c.n, c.flight); got != c.want {
			t.Error(c, got)
		}
	}
}

// P12.1: Lost, Late, Idle and Empty of sizes at and near their edges.
func TestLess(t *testing.T) {
	for _, c := range []struct {
		w                       Window
		lost, late, idle, empty Window
	}{
		{Window{128, 900, 4}, Window{512, 512, 0}, Window{128, 512, 0}, Window{128, 900, 0}, Window{128, 900, 0}},
		{Window{511, 900, 4}, Window{512, 512, 0}, Window{128, 512, 0}, Window{511, 900, 0}, Window{511, 900, 0}},
		{Window{512, 900, 4}, Window{512, 512, 0}, Window{128, 512, 0}, Window{512, 900, 0}, Window{512, 900, 0}},
		{Window{513, 900, 4}, Window{512, 512, 0}, Window{128, 512, 0}, Window{512, 900, 0}, Window{513, 900, 0}},
		{Window{1025, 900, 4}, Window{512, 512, 0}, Window{128, 512, 0}, Window{512, 900, 0}, Window{1025, 900, 0}},
		{Window{1026, 900, 4}, Window{513, 513, 0}, Window{128, 513, 0}, Window{513, 900, 0}, Window{1026, 900, 0}},
		{Window{1027, 900, 4}, Window{513, 513, 0}, Window{128, 513, 0}, Window{513, 900, 0}, Window{1027, 900, 0}},
		{Window{8192, 128, 1 << 31}, Window{4096, 4096, 0}, Window{128, 4096, 0}, Window{4096, 128, 0}, Window{8192, 128, 0}},
		{Window{}, Window{512, 512, 0}, Window{128, 512, 0}, Window{512, 2000, 0}, Window{512, 2000, 0}},
		{Window{9000, 128, 0}, Window{512, 512, 0}, Window{128, 512, 0}, Window{512, 2000, 0}, Window{512, 2000, 0}},
	} {
		same(t, "Lost", c.w, c.w.Lost(), c.lost)
		same(t, "Late", c.w, c.w.Late(), c.late)
		same(t, "Idle", c.w, c.w.Idle(), c.idle)
		same(t, "Empty", c.w, c.w.Empty(), c.empty)
	}
}

// P12.1: Room is what of the size isn't on its way, and never below nought.
func TestRoom(t *testing.T) {
	for _, c := range []struct {
		w            Window
		flight, want int
	}{
		{first, 0, 512}, {first, 1, 511}, {first, 511, 1}, {first, 512, 0}, {first, 513, 0},
		{first, -1, 512}, {first, math.MinInt64, 512}, {first, math.MaxInt64, 0},
		{Window{8192, 128, 7}, 8191, 1}, {Window{8192, 128, 7}, -8192, 8192}, {Window{8192, 128, 7}, 1 << 32, 0},
		{Window{}, 12, 500}, {Window{8193, 128, 7}, 12, 500}, {Window{700, 700, -1}, 12, 500},
	} {
		if got := c.w.Room(c.flight); got != c.want {
			t.Error(c, got)
		}
	}
}

// P12.1: Slow is whether the size is at most the threshold.
func TestSlow(t *testing.T) {
	for _, c := range []struct {
		w    Window
		want bool
	}{
		{Window{699, 700, 0}, true}, {Window{700, 700, 0}, true}, {Window{701, 700, 0}, false},
		{Window{128, 128, 9}, true}, {Window{129, 128, 9}, false}, {Window{8192, 8192, 9}, true}, {Window{8192, 8191, 9}, false},
		{Window{}, true}, {Window{3000, 100, 0}, true}, {Window{3000, 2000, -1}, true}, {Window{9000, 128, 0}, true},
	} {
		if got := c.w.Slow(); got != c.want {
			t.Error(c, got)
		}
	}
}

// P12.1: all calls answer by the chapter's words, at all edges; one that isn't
// good answers as First does.
func TestAllAtEdges(t *testing.T) {
	for _, w := range all() {
		for _, n := range numbers {
			for _, flight := range numbers {
				checkAll(t, w, n, flight)
			}
			for _, flight := range []int{w.Size - 1, w.Size, w.Size + 1} {
				checkAll(t, w, n, flight)
			}
		}
	}
}

// P12.1: all calls answer by the chapter's words, of any good window.
func TestAllOfAny(t *testing.T) {
	r := rand.New(rand.NewSource(12))
	same, fast, counted, grown := 0, 0, 0, 0
	for range 300000 {
		w := anyGood(r)
		n, flight := near(r, w.Size-w.Count), near(r, w.Size)
		checkAll(t, w, n, flight)
		switch next := w.Acked(n, flight); {
		case next == w:
			same++
		case next.Count == w.Count:
			fast++
		case next.Size == w.Size:
			counted++
		default:
			grown++
		}
	}
	if same < 1000 || fast < 1000 || counted < 1000 || grown < 1000 {
		t.Error(same, fast, counted, grown)
	}
}

// P12.1: what is asked isn't changed by it.
func TestAskedStaysSame(t *testing.T) {
	for _, w := range all() {
		was := w
		Good(w)
		w.Acked(5000, 9000)
		w.Lost()
		w.Late()
		w.Idle()
		w.Empty()
		w.Room(7)
		w.Slow()
		if w != was {
			t.Error(was, w)
		}
	}
}

// P12.1: windows are asked from several sides at once.
func TestSeveralAtOnce(t *testing.T) {
	var sides sync.WaitGroup
	for n := range 8 {
		sides.Add(1)
		go func() {
			defer sides.Done()
			w := First()
			for i := range 1000 {
				want := slowAcked(w, n+i, 600*n)
				if w = w.Acked(n+i, 600*n); w != want {
					t.Error(n, i, w, want)
					return
				}
			}
		}()
	}
	sides.Wait()
}

// step is a good window, a step behind another one.
func step(r *rand.Rand, w Window) Window {
	switch r.Intn(40) {
	case 0:
		return w.Lost()
	case 1:
		return w.Late()
	case 2:
		return w.Idle()
	case 3:
		return w.Empty()
	}
	return w.Acked(near(r, w.Size), near(r, w.Size))
}

// P12.2: of good ones good ones come, step by step.
func TestGoodComeOfGood(t *testing.T) {
	r := rand.New(rand.NewSource(122))
	slow, fast := 0, 0
	for range 500 {
		w := anyGood(r)
		for range 400 {
			w = step(r, w)
			if !slowGood(w) || !Good(w) {
				t.Fatal(w)
			}
			if w.Slow() {
				slow++
			} else {
				fast++
			}
		}
	}
	if slow < 1000 || fast < 1000 {
		t.Error(slow, fast)
	}
}

// P12.2: of all windows, good or not, all calls answer good ones.
func TestGoodComeOfAll(t *testing.T) {
	for _, w := range all() {
		for _, n := range numbers {
			for _, flight := range numbers {
				if next := w.Acked(n, flight); !slowGood(next) {
					t.Error(w, n, flight, next)
				}
			}
		}
		for _, next := range []Window{w.Lost(), w.Late(), w.Idle(), w.Empty()} {
			if !slowGood(next) {
				t.Error(w, next)
			}
		}
	}
}

// P12.2: what is lost never makes a size greater than it was, or than 4 units.
func TestLostNeverGrows(t *testing.T) {
	for size := 128; size <= 8192; size++ {
		most := max(size, 512)
		for _, threshold := range []int{128, 512, 2000, 8192} {
			w := Window{size, threshold, size / 3}
			lost, late := w.Lost(), w.Late()
			if lost.Size > most || late.Size > size || late.Size != 128 {
				t.Fatal(w, lost, late)
			}
			if lost.Threshold > most || late.Threshold > most || lost.Threshold < 512 || late.Threshold < 512 {
				t.Fatal(w, lost, late)
			}
			if w.Idle().Size > size || w.Empty().Size != size {
				t.Fatal(w, w.Idle(), w.Empty())
			}
		}
	}
}

// P12.2: what is acknowledged never makes a size less, and it grows by a unit at most.
func TestAckedNeverShrinks(t *testing.T) {
	r := rand.New(rand.NewSource(1222))
	for range 200000 {
		w := anyGood(r)
		n, flight := near(r, w.Size), near(r, w.Size)
		next := w.Acked(n, flight)
		if next.Size < w.Size || next.Size > w.Size+128 || next.Threshold != w.Threshold {
			t.Fatal(w, n, flight, next)
		}
	}
}

// P12.2: where all that is sent is acknowledged, a window grows to the greatest and stays.
func TestGrowsToGreatest(t *testing.T) {
	for _, w := range good {
		for range 3000 {
			w = w.Acked(w.Size, w.Size)
		}
		if w.Size != 8192 || !slowGood(w) {
			t.Error(w)
		}
	}
}
