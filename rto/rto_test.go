package rto

import (
	"math"
	"math/rand"
	"sync"
	"testing"

	"weftline/api"
)

// notGood is estimates that aren't good.
var notGood = []Estimate{
	{},
	{Measured: true},
	{Wait: 9},
	{Wait: 601},
	{Wait: 0, Measured: true},
	{Wait: 9, Measured: true},
	{Wait: 601, Measured: true},
	{Wait: -30},
	{Wait: math.MinInt64},
	{Wait: math.MaxInt64},
	{Wait: 1<<32 + 30},
	{Wait: 30, Smooth: 1},
	{Wait: 30, Smooth: -1},
	{Wait: 30, Spread: 1},
	{Wait: 30, Spread: -1},
	{Wait: 30, Smooth: 8, Spread: 2},
	{Wait: 30, Smooth: -1, Measured: true},
	{Wait: 30, Spread: -1, Measured: true},
	{Wait: 30, Smooth: 524281, Measured: true},
	{Wait: 30, Spread: 262141, Measured: true},
	{Wait: 30, Smooth: math.MaxInt64, Measured: true},
	{Wait: 30, Smooth: math.MinInt64, Measured: true},
	{Wait: 30, Spread: math.MaxInt64, Measured: true},
	{Wait: 30, Spread: math.MinInt64, Measured: true},
	{Wait: 30, Smooth: 1<<32 + 8, Measured: true},
}

// good is estimates that are good, at the edges too.
var good = []Estimate{
	{Wait: 10},
	{Wait: 30},
	{Wait: 600},
	{Wait: 10, Measured: true},
	{Wait: 600, Measured: true},
	{Wait: 11, Smooth: 1, Measured: true},
	{Wait: 599, Spread: 1, Measured: true},
	{Wait: 24, Smooth: 64, Spread: 16, Measured: true},
	{Wait: 300, Smooth: 524280, Measured: true},
	{Wait: 301, Spread: 262140, Measured: true},
	{Wait: 600, Smooth: 524280, Spread: 262140, Measured: true},
	{Wait: 10, Smooth: 524279, Spread: 262139, Measured: true},
}

// slowGood is whether an estimate is good, by the chapter's words.
func slowGood(e Estimate) bool {
	wait := 10 <= e.Wait && e.Wait <= 600
	smooth := 0 <= e.Smooth && e.Smooth <= 8*65535
	spread := 0 <= e.Spread && e.Spread <= 4*65535
	noughts := e.Smooth == 0 && e.Spread == 0
	return wait && smooth && spread && (e.Measured || noughts)
}

// slowTook is a good estimate behind an answer, by the chapter's words, in
// which all that is rounded down is found by counting.
func slowTook(e Estimate, r int) Estimate {
	next := Estimate{Measured: true}
	if !e.Measured {
		next.Smooth, next.Spread = 8*r, 2*r
	} else {
		off := float64(r) - math.Floor(float64(e.Smooth)/8)
		next.Smooth = e.Smooth + int(off)
		next.Spread = e.Spread + int(math.Abs(off)-math.Floor(float64(e.Spread)/4))
	}
	next.Wait = int(math.Floor(float64(next.Smooth)/8)) + next.Spread
	if next.Wait < 10 {
		next.Wait = 10
	}
	if next.Wait > 600 {
		next.Wait = 600
	}
	return next
}

// slowTwice is the wait when nothing came, by the chapter's words.
func slowTwice(wait int) int {
	if wait+wait > 600 {
		return 600
	}
	return wait + wait
}

// anyGood is some good estimate; edges come often.
func anyGood(r *rand.Rand) Estimate {
	e := Estimate{Wait: 10 + r.Intn(591)}
	if r.Intn(4) == 0 {
		return e
	}
	e.Measured = true
	e.Smooth = some(r, 8*65535)
	e.Spread = some(r, 4*65535)
	return e
}

// some is some number up to most: small, great, or any.
func some(r *rand.Rand, most int) int {
	switch r.Intn(4) {
	case 0:
		return r.Intn(20)
	case 1:
		return most - r.Intn(20)
	case 2:
		return r.Intn(5000)
	}
	return r.Intn(most + 1)
}

// took is the estimate behind an answer that may not be refused.
func took(t *testing.T, e Estimate, r int) Estimate {
	t.Helper()
	next, err := e.Took(r)
	if err != nil {
		t.Fatal(e, r, err)
	}
	return next
}

// P11.1: First is an estimate without an answer, whose wait is 30.
func TestFirst(t *testing.T) {
	if e := First(); e != (Estimate{Wait: 30}) || !Good(e) {
		t.Error(e)
	}
}

// P11.1: Good tells the bounds, each at its edge.
func TestGood(t *testing.T) {
	for _, e := range good {
		if !Good(e) {
			t.Error("good:", e)
		}
	}
	for _, e := range notGood {
		if Good(e) {
			t.Error("not good:", e)
		}
	}
}

// P11.1: Good answers by the chapter's words near all edges.
func TestGoodNearEdges(t *testing.T) {
	smooths := []int{-8, -1, 0, 1, 8, 262140, 262141, 524279, 524280, 524281, 524288}
	spreads := []int{-4, -1, 0, 1, 4, 262139, 262140, 262141, 262144, 524280}
	yes, no := 0, 0
	for _, wait := range []int{-1, 0, 9, 10, 11, 30, 599, 600, 601} {
		for _, smooth := range smooths {
			for _, spread := range spreads {
				for _, measured := range []bool{false, true} {
					e := Estimate{smooth, spread, wait, measured}
					if Good(e) != slowGood(e) {
						t.Error(e)
					}
					if Good(e) {
						yes++
					} else {
						no++
					}
				}
			}
		}
	}
	if yes == 0 || no == 0 {
		t.Error(yes, no)
	}
}

// P11.1: Took answers what another program reckoned, one answer behind the other.
func TestTookOneBehindTheOther(t *testing.T) {
	e := First()
	for i, c := range []struct {
		took int
		want Estimate
	}{
		{8, Estimate{64, 16, 24, true}},
		{8, Estimate{64, 12, 20, true}},
		{8, Estimate{64, 9, 17, true}},
		{8, Estimate{64, 7, 15, true}},
		{9, Estimate{65, 7, 15, true}},
		{0, Estimate{57, 14, 21, true}},
		{0, Estimate{50, 18, 24, true}},
		{1, Estimate{45, 19, 24, true}},
		{65535, Estimate{65575, 65545, 600, true}},
		{65535, Estimate{122914, 106498, 600, true}},
		{0, Estimate{107550, 95238, 600, true}},
		{37, Estimate{94144, 84835, 600, true}},
		{37, Estimate{82413, 75358, 600, true}},
		{100, Estimate{72212, 66720, 600, true}},
		{5, Estimate{63191, 59061, 600, true}},
	} {
		e = took(t, e, c.took)
		if e != c.want {
			t.Fatal(i, c, e)
		}
	}
}

// P11.1: the first answer alone tells all, whatever was waited till then; the wait stays within its bounds.
func TestTookFirst(t *testing.T) {
	for _, c := range []struct {
		took int
		want Estimate
	}{
		{0, Estimate{0, 0, 10, true}},
		{1, Estimate{8, 2, 10, true}},
		{3, Estimate{24, 6, 10, true}},
		{4, Estimate{32, 8, 12, true}},
		{199, Estimate{1592, 398, 597, true}},
		{200, Estimate{1600, 400, 600, true}},
		{201, Estimate{1608, 402, 600, true}},
		{65535, Estimate{524280, 131070, 600, true}},
	} {
		for _, wait := range []int{10, 30, 600} {
			if e := took(t, Estimate{Wait: wait}, c.took); e != c.want {
				t.Error(wait, c, e)
			}
		}
	}
}

// P11.1: the wait behind a further answer isn't told by the wait ahead of it.
func TestTookForgetsTwice(t *testing.T) {
	e := took(t, First(), 8)
	late := e.Twice().Twice().Twice()
	if late.Wait != 192 || took(t, late, 8) != took(t, e, 8) {
		t.Error(late)
	}
}

// P11.1: Took refuses what isn't good, and answers that took too little or too much.
func TestTookRefuses(t *testing.T) {
	for _, e := range notGood {
		for _, r := range []int{-1, 0, 1, 8, 65535, 65536} {
			if next, err := e.Took(r); err != api.ErrRange || next != (Estimate{}) {
				t.Error(e, r, next, err)
			}
		}
	}
	for _, e := range good {
		for _, r := range []int{-1, -8, 65536, 1 << 32, 1<<32 + 8, math.MinInt64, math.MaxInt64} {
			if next, err := e.Took(r); err != api.ErrRange || next != (Estimate{}) {
				t.Error(e, r, next, err)
			}
		}
		for _, r := range []int{0, 65535} {
			if next, err := e.Took(r); err != nil || next != slowTook(e, r) {
				t.Error(e, r, next, err)
			}
		}
	}
}

// P11.1: Twice doubles the wait alone, up to 600; what isn't good becomes First.
func TestTwice(t *testing.T) {
	for wait := 10; wait <= 600; wait++ {
		for _, e := range []Estimate{{Wait: wait}, {64, 16, wait, true}, {524280, 262140, wait, true}} {
			want := e
			want.Wait = slowTwice(wait)
			if got := e.Twice(); got != want {
				t.Error(e, got, want)
			}
		}
	}
	for _, e := range notGood {
		if got := e.Twice(); got != (Estimate{Wait: 30}) {
			t.Error(e, got)
		}
	}
}

// P11.1: Times are rounded down to whole ticks; 0 and 0 of what isn't good.
func TestTimes(t *testing.T) {
	for _, c := range []struct {
		e              Estimate
		smooth, spread int
	}{
		{Estimate{Wait: 30}, 0, 0},
		{Estimate{7, 3, 30, true}, 0, 0},
		{Estimate{8, 4, 30, true}, 1, 1},
		{Estimate{15, 7, 30, true}, 1, 1},
		{Estimate{16, 8, 30, true}, 2, 2},
		{Estimate{826, 709, 600, true}, 103, 177},
		{Estimate{524279, 262139, 600, true}, 65534, 65534},
		{Estimate{524280, 262140, 600, true}, 65535, 65535},
		{Estimate{524281, 262140, 600, true}, 0, 0},
		{Estimate{524280, 262141, 600, true}, 0, 0},
		{Estimate{80, 40, 9, true}, 0, 0},
		{Estimate{80, 40, 601, true}, 0, 0},
		{Estimate{80, 40, 30, false}, 0, 0},
		{Estimate{-80, 40, 30, true}, 0, 0},
		{Estimate{80, -40, 30, true}, 0, 0},
	} {
		if smooth, spread := c.e.Times(); smooth != c.smooth || spread != c.spread {
			t.Error(c, smooth, spread)
		}
	}
	for _, e := range notGood {
		if smooth, spread := e.Times(); smooth != 0 || spread != 0 {
			t.Error(e, smooth, spread)
		}
	}
}

// P11.1: Waits adds up the waits, at most 1000 of them.
func TestWaits(t *testing.T) {
	for _, c := range []struct {
		wait, many, want int
	}{
		{30, 1, 30}, {30, 2, 90}, {30, 3, 210}, {30, 4, 450}, {30, 5, 930}, {30, 6, 1530}, {30, 7, 2130},
		{10, 1, 10}, {10, 6, 630}, {10, 7, 1230}, {10, 8, 1830},
		{300, 2, 900}, {301, 2, 901}, {299, 2, 897}, {600, 1, 600}, {600, 2, 1200},
		{600, 999, 599400}, {600, 1000, 600000}, {600, 1001, 600000},
		{30, 999, 597330}, {30, 1000, 597930}, {30, 1001, 597930}, {30, 1 << 32, 597930}, {30, math.MaxInt64, 597930},
		{30, 0, 0}, {30, -1, 0}, {30, math.MinInt64, 0}, {30, -1000, 0},
	} {
		for _, e := range []Estimate{{Wait: c.wait}, {64, 16, c.wait, true}} {
			if got := Waits(e, c.many); got != c.want {
				t.Error(e, c, got)
			}
		}
	}
	for _, e := range notGood {
		for _, many := range []int{-1, 0, 1, 5, 1000, math.MaxInt64} {
			if got := Waits(e, many); got != 0 {
				t.Error(e, many, got)
			}
		}
	}
}

// P11.1: Waits is what goes by, Twice behind Twice.
func TestWaitsAreThoseOfTwice(t *testing.T) {
	for wait := 10; wait <= 600; wait++ {
		e, sum := Estimate{Wait: wait}, 0
		first := e
		for many := 1; many <= 1002; many++ {
			if many <= 1000 {
				sum += e.Wait
				e = e.Twice()
			}
			if many < 12 || many > 997 {
				if got := Waits(first, many); got != sum {
					t.Fatal(wait, many, got, sum)
				}
			}
		}
	}
}

// P11.1: Took answers by the chapter's words, of any good estimate.
func TestTookOfAny(t *testing.T) {
	r := rand.New(rand.NewSource(11))
	least, most, between := 0, 0, 0
	for range 200000 {
		e, ticks := anyGood(r), some(r, 65535)
		next := took(t, e, ticks)
		if want := slowTook(e, ticks); next != want {
			t.Fatal(e, ticks, next, want)
		}
		switch next.Wait {
		case 10:
			least++
		case 600:
			most++
		default:
			between++
		}
	}
	if least < 100 || most < 100 || between < 100 {
		t.Error(least, most, between)
	}
}

// P11.1: what is asked isn't changed by it.
func TestAskedStaysSame(t *testing.T) {
	for _, e := range append(good[:len(good):len(good)], notGood...) {
		was := e
		e.Took(7)
		e.Twice()
		e.Times()
		Good(e)
		Waits(e, 9)
		if e != was {
			t.Error(was, e)
		}
	}
}

// P11.1: estimates are asked from several sides at once.
func TestSeveralAtOnce(t *testing.T) {
	var all sync.WaitGroup
	for n := range 8 {
		all.Add(1)
		go func() {
			defer all.Done()
			e := First()
			for i := range 1000 {
				want := slowTook(e, n+i)
				next, err := e.Took(n + i)
				if err != nil || next != want {
					t.Error(n, i, next, err)
					return
				}
				e = next.Twice()
			}
		}()
	}
	all.Wait()
}

// P11.2: of good ones good ones come, and the wait stays within its bounds.
func TestGoodComeOfGood(t *testing.T) {
	r := rand.New(rand.NewSource(112))
	for range 300 {
		e := anyGood(r)
		for range 300 {
			if r.Intn(4) == 0 {
				e = e.Twice()
			} else {
				e = took(t, e, some(r, 65535))
			}
			if !slowGood(e) || !Good(e) {
				t.Fatal(e)
			}
		}
	}
}

// P11.2: the greatest and the least numbers there are make good ones, too.
func TestGoodComeOfEdges(t *testing.T) {
	for _, e := range good {
		for _, ticks := range []int{0, 1, 65534, 65535} {
			next := e
			for i := range 500 {
				next = took(t, next, ticks)
				if !slowGood(next) {
					t.Fatal(e, ticks, i, next)
				}
				if i%2 == 1 && ticks > 1 {
					next = took(t, next, 65535-ticks)
				}
				if !slowGood(next) || !slowGood(next.Twice()) {
					t.Fatal(e, ticks, i, next)
				}
			}
		}
	}
}

// P11.2: where each answer takes as long as the first one, the smoothed time
// stays that, and the deviation never rises.
func TestSameAgainAndAgain(t *testing.T) {
	for ticks := 0; ticks <= 65535; ticks += 1 + ticks/100 {
		e := took(t, First(), ticks)
		for i := range 60 {
			next := took(t, e, ticks)
			smooth, spread := next.Times()
			_, was := e.Times()
			if smooth != ticks || spread > was || next.Spread > e.Spread || next.Smooth != 8*ticks {
				t.Fatal(ticks, i, e, next)
			}
			if e.Spread > 3 && next.Spread == e.Spread {
				t.Fatal("the deviation stays:", ticks, i, e)
			}
			e = next
		}
		if e.Spread > 3 {
			t.Error(ticks, e)
		}
	}
}
