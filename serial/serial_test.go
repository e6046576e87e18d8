package serial

import (
	"iter"
	"math"
	"math/rand"
	"slices"
	"testing"
)

type (
	seq uint16
	tsn uint32
)

// round is how many numbers there are of a kind.
func round[T Number]() int {
	return int(^T(0)) + 1
}

// slowFar is how far b is behind a, by the document's own words.
func slowFar[T Number](a, b T) int {
	return ((int(b)-int(a))%round[T]() + round[T]()) % round[T]()
}

// slowAhead tells whether a is ahead of b, by the document's own words.
func slowAhead[T Number](a, b T) bool {
	far := slowFar(a, b)
	return far != 0 && far < round[T]()/2
}

// edges is numbers about 0, about half and at the end of a kind, and a few others.
func edges[T Number]() []T {
	half, all := round[T]()/2, round[T]()
	var list []T
	for _, n := range []int{
		0, 1, 2, 3, 255, 256, 12345,
		half - 2, half - 1, half, half + 1, half + 2,
		all - 256, all - 3, all - 2, all - 1,
	} {
		list = append(list, T(n))
	}
	return list
}

// someNumbers is the edges and random numbers behind them.
func someNumbers[T Number](r *rand.Rand) []T {
	list := edges[T]()
	for range 40 {
		list = append(list, T(r.Uint32()))
	}
	return list
}

// steps is what to step by: nothing, a little, rounds, and as much as an int holds.
func steps[T Number]() []int {
	list := []int{0, math.MaxInt, math.MinInt, math.MaxInt - 1, math.MinInt + 1, 1<<40 + 7}
	for _, n := range []int{1, 2, 3, 1000, round[T]()/2 - 1, round[T]() / 2, round[T]()/2 + 1} {
		list = append(list, n, -n)
	}
	for _, n := range []int{round[T]() - 1, round[T](), round[T]() + 1, 5*round[T]() + 9} {
		list = append(list, n, -n)
	}
	return list
}

// eachKind runs a test once for each kind of numbers.
func eachKind(t *testing.T, of16, of32, ofSeq, ofTSN func(*testing.T)) {
	t.Run("uint16", of16)
	t.Run("uint32", of32)
	t.Run("seq", ofSeq)
	t.Run("tsn", ofTSN)
}

// part is one run of a list.
type part[T Number] struct {
	first T
	n     int
}

// parts is all that an iterator of runs gives.
func parts[T Number](runs iter.Seq2[T, int]) []part[T] {
	var list []part[T]
	for first, n := range runs {
		list = append(list, part[T]{first, n})
	}
	return list
}

// P2.1: Far and Ahead.

func TestTheExample(t *testing.T) {
	if !Ahead(uint16(65535), 2) || Ahead(uint16(2), 65535) {
		t.Error("65535 is ahead of 2")
	}
	if got := Far(uint16(65535), 2); got != 3 {
		t.Errorf("2 is %d behind 65535", got)
	}
}

func TestFarAndAheadOfKnownNumbers(t *testing.T) {
	for _, c := range []struct {
		a, b  uint32
		far   int
		ahead bool
	}{
		{0, 0, 0, false},
		{7, 7, 0, false},
		{math.MaxUint32, math.MaxUint32, 0, false},
		{0, 1, 1, true},
		{1, 0, math.MaxUint32, false},
		{math.MaxUint32, 0, 1, true},
		{0, math.MaxUint32, math.MaxUint32, false},
		{65535, 2, 1<<32 - 65533, false},
		{math.MaxUint32, 2, 3, true},
		{0, 1<<31 - 1, 1<<31 - 1, true},
		{0, 1 << 31, 1 << 31, false},
		{1 << 31, 0, 1 << 31, false},
		{0, 1<<31 + 1, 1<<31 + 1, false},
		{3000000000, 1000000000, 2294967296, false},
		{3000000000, 800000000, 2094967296, true},
	} {
		if got := Far(c.a, c.b); got != c.far {
			t.Errorf("Far(%d, %d) is %d", c.a, c.b, got)
		}
		if got := Ahead(c.a, c.b); got != c.ahead {
			t.Errorf("Ahead(%d, %d) is %v", c.a, c.b, got)
		}
	}
}

func testFarAndAhead[T Number](t *testing.T) {
	list := someNumbers[T](rand.New(rand.NewSource(1)))
	for _, a := range list {
		for _, b := range list {
			if got := Far(a, b); got != slowFar(a, b) {
				t.Errorf("Far(%d, %d) is %d", a, b, got)
			}
			if got := Ahead(a, b); got != slowAhead(a, b) {
				t.Errorf("Ahead(%d, %d) is %v", a, b, got)
			}
		}
	}
}

func TestFarAndAhead(t *testing.T) {
	eachKind(t, testFarAndAhead[uint16], testFarAndAhead[uint32], testFarAndAhead[seq], testFarAndAhead[tsn])
}

func TestFarAndAheadOfEveryDifference(t *testing.T) {
	for _, a := range []uint16{0, 1, 32767, 32768, 40000, 65535} {
		for far := range 1 << 16 {
			b := uint16((int(a) + far) % (1 << 16))
			if Far(a, b) != far || Ahead(a, b) != (far > 0 && far < 1<<15) {
				t.Fatalf("of %d and %d: Far is %d, Ahead %v", a, b, Far(a, b), Ahead(a, b))
			}
		}
	}
}

// P2.1: Step.

func TestStepOfKnownNumbers(t *testing.T) {
	for _, c := range []struct {
		a    uint16
		n    int
		want uint16
	}{
		{5, 0, 5},
		{5, 3, 8},
		{5, -3, 2},
		{65535, 1, 0},
		{65535, 3, 2},
		{2, -3, 65535},
		{0, -1, 65535},
		{9, 65536, 9},
		{9, -65536, 9},
		{9, 65537, 10},
		{9, 1 << 40, 9},
		{9, math.MaxInt, 8},
		{9, math.MinInt, 9},
		{9, math.MinInt + 1, 10},
	} {
		if got := Step(c.a, c.n); got != c.want {
			t.Errorf("Step(%d, %d) is %d", c.a, c.n, got)
		}
	}
}

func testStep[T Number](t *testing.T) {
	for _, a := range someNumbers[T](rand.New(rand.NewSource(2))) {
		for _, n := range steps[T]() {
			// Rounds are taken off ahead of the sum, which would wrap around.
			want := T((int(a) + n%round[T]() + round[T]()) % round[T]())
			if got := Step(a, n); got != want {
				t.Errorf("Step(%d, %d) is %d", a, n, got)
			}
		}
	}
}

func TestStep(t *testing.T) {
	eachKind(t, testStep[uint16], testStep[uint32], testStep[seq], testStep[tsn])
}

// P2.1: Within.

func TestWithinOfKnownNumbers(t *testing.T) {
	for _, c := range []struct {
		a, from uint16
		n       int
		want    bool
	}{
		{7, 7, math.MinInt, false},
		{7, 7, -1, false},
		{7, 7, 0, false},
		{7, 7, 1, true},
		{8, 7, 1, false},
		{6, 7, 1, false},
		{8, 7, 2, true},
		{9, 7, 2, false},
		{0, 65535, 1, false},
		{0, 65535, 2, true},
		{1, 65535, 2, false},
		{2, 65535, 4, true},
		{65534, 65535, 65535, false},
		{65534, 65535, 65536, true},
		{6, 7, 65535, false},
		{6, 7, 65536, true},
		{6, 7, 65537, true},
		{5, 7, 65537, true},
		{6, 7, 1 << 16 * 3, true},
		{6, 7, 1 << 40, true},
		{6, 7, math.MaxInt, true},
	} {
		if got := Within(c.a, c.from, c.n); got != c.want {
			t.Errorf("Within(%d, %d, %d) is %v", c.a, c.from, c.n, got)
		}
	}
}

func testWithin[T Number](t *testing.T) {
	list := someNumbers[T](rand.New(rand.NewSource(3)))
	for _, a := range list {
		for _, from := range list {
			far := slowFar(from, a)
			for _, n := range append(steps[T](), far-1, far, far+1, far+2) {
				if got := Within(a, from, n); got != (n >= 1 && n > far) {
					t.Errorf("Within(%d, %d, %d) is %v", a, from, n, got)
				}
			}
		}
	}
}

func TestWithin(t *testing.T) {
	eachKind(t, testWithin[uint16], testWithin[uint32], testWithin[seq], testWithin[tsn])
}

func TestWithinIsWhatRangeGives(t *testing.T) {
	for _, n := range []int{-1, 0, 1, 5, 1000, 65535, 65536, 65537} {
		in := make([]bool, 1<<16)
		for a := range Range(uint16(65000), n) {
			in[a] = true
		}
		for a := range 1 << 16 {
			if Within(uint16(a), 65000, n) != in[a] {
				t.Fatalf("Within(%d, 65000, %d) is %v", a, n, !in[a])
			}
		}
	}
}

// P2.1: Later.

func TestLaterOfKnownNumbers(t *testing.T) {
	for _, c := range []struct{ a, b, want uint16 }{
		{3, 3, 3},
		{3, 4, 4},
		{4, 3, 4},
		{65535, 2, 2},
		{2, 65535, 2},
		{0, 32767, 32767},
		{32767, 0, 32767},
		{0, 32768, 0},
		{32768, 0, 32768},
		{5, 32773, 5},
		{32773, 5, 32773},
		{0, 32769, 0},
		{32769, 0, 0},
	} {
		if got := Later(c.a, c.b); got != c.want {
			t.Errorf("Later(%d, %d) is %d", c.a, c.b, got)
		}
	}
}

func testLater[T Number](t *testing.T) {
	list := someNumbers[T](rand.New(rand.NewSource(4)))
	for _, a := range list {
		for _, b := range list {
			want := a
			if slowAhead(a, b) {
				want = b
			}
			if got := Later(a, b); got != want {
				t.Errorf("Later(%d, %d) is %d", a, b, got)
			}
		}
	}
}

func TestLater(t *testing.T) {
	eachKind(t, testLater[uint16], testLater[uint32], testLater[seq], testLater[tsn])
}

// P2.1: Sort.

func TestSortOfKnownLists(t *testing.T) {
	for _, c := range []struct {
		from       uint16
		list, want []uint16
	}{
		{0, nil, nil},
		{9, []uint16{}, nil},
		{9, []uint16{4}, []uint16{4}},
		{9, []uint16{9, 9, 9}, []uint16{9}},
		{0, []uint16{3, 1, 2}, []uint16{1, 2, 3}},
		{0, []uint16{3, 1, 3, 2, 1}, []uint16{1, 2, 3}},
		{2, []uint16{3, 1, 2}, []uint16{2, 3, 1}},
		{65534, []uint16{0, 65535, 1, 65534, 0, 65535}, []uint16{65534, 65535, 0, 1}},
		{65534, []uint16{65533, 40000, 5, 65534}, []uint16{65534, 5, 40000, 65533}},
		{100, []uint16{32869, 32868, 32867, 99, 100}, []uint16{100, 32867, 32868, 32869, 99}},
	} {
		if got := Sort(c.from, c.list...); !slices.Equal(got, c.want) {
			t.Errorf("Sort(%d, %d) is %d", c.from, c.list, got)
		}
	}
}

func testSort[T Number](t *testing.T) {
	r := rand.New(rand.NewSource(5))
	for range 300 {
		from := someNumbers[T](r)[r.Intn(20)]
		list := make([]T, r.Intn(60))
		for i := range list {
			list[i] = from + T(r.Intn(40)-20)
			if r.Intn(3) == 0 {
				list[i] = T(r.Uint32())
			}
		}
		in := map[T]int{}
		for _, a := range list {
			in[a]++
		}
		got := Sort(from, list...)
		if len(got) != len(in) {
			t.Fatalf("Sort(%d, %d) is %d", from, list, got)
		}
		for i, a := range got {
			if in[a] == 0 || i > 0 && slowFar(from, got[i-1]) >= slowFar(from, a) {
				t.Fatalf("Sort(%d, %d) is %d", from, list, got)
			}
		}
	}
}

func TestSort(t *testing.T) {
	eachKind(t, testSort[uint16], testSort[uint32], testSort[seq], testSort[tsn])
}

func TestSortOfEveryNumber(t *testing.T) {
	var list []uint16
	for a := range 1 << 17 {
		list = append(list, uint16(a*40503))
	}
	got := Sort(50000, list...)
	if len(got) != 1<<16 {
		t.Fatalf("Sort gives %d numbers", len(got))
	}
	for i, a := range got {
		if a != uint16(50000+i) {
			t.Fatalf("number %d is %d", i, a)
		}
	}
}

// P2.1: Range.

func TestRangeOfKnownNumbers(t *testing.T) {
	for _, c := range []struct {
		from uint32
		n    int
		want []uint32
	}{
		{5, math.MinInt, nil},
		{5, -1, nil},
		{5, 0, nil},
		{5, 1, []uint32{5}},
		{5, 3, []uint32{5, 6, 7}},
		{math.MaxUint32, 1, []uint32{math.MaxUint32}},
		{math.MaxUint32 - 1, 4, []uint32{math.MaxUint32 - 1, math.MaxUint32, 0, 1}},
		{65535, 2, []uint32{65535, 65536}},
	} {
		if got := slices.Collect(Range(c.from, c.n)); !slices.Equal(got, c.want) {
			t.Errorf("Range(%d, %d) is %d", c.from, c.n, got)
		}
	}
}

func testRange[T Number](t *testing.T) {
	for _, from := range someNumbers[T](rand.New(rand.NewSource(6))) {
		for _, n := range []int{-5, 0, 1, 2, 300} {
			got := slices.Collect(Range(from, n))
			if len(got) != max(n, 0) {
				t.Fatalf("Range(%d, %d) gives %d numbers", from, n, len(got))
			}
			for i, a := range got {
				if a != T((int(from)+i)%round[T]()) {
					t.Fatalf("Range(%d, %d) is %d", from, n, got)
				}
			}
		}
	}
}

func TestRange(t *testing.T) {
	eachKind(t, testRange[uint16], testRange[uint32], testRange[seq], testRange[tsn])
}

func TestRangeOfMoreThanThereAre(t *testing.T) {
	for _, n := range []int{65535, 65536, 65537, 200000} {
		count := 0
		for a := range Range(uint16(60000), n) {
			if a != uint16((60000+count)%65536) {
				t.Fatalf("number %d of %d is %d", count, n, a)
			}
			count++
		}
		if count != n {
			t.Errorf("Range(60000, %d) gives %d numbers", n, count)
		}
	}
}

func TestRangeThatIsLeftEarly(t *testing.T) {
	for _, n := range []int{1, 2, 3, 70000, math.MaxInt} {
		for last := range min(n, 3) {
			calls := 0
			Range(uint16(65534), n)(func(a uint16) bool {
				if a != uint16(65534+calls) {
					t.Errorf("number %d is %d", calls, a)
				}
				calls++
				return calls <= last
			})
			if calls != last+1 {
				t.Errorf("Range of %d, left at number %d, gives %d", n, last+1, calls)
			}
		}
	}
}

func TestRangeThatIsUsedTwice(t *testing.T) {
	numbers := Range(tsn(math.MaxUint32), 3)
	for range numbers {
		break
	}
	for range 2 {
		if got := slices.Collect(numbers); !slices.Equal(got, []tsn{math.MaxUint32, 0, 1}) {
			t.Errorf("Range is %d", got)
		}
	}
}

// P2.1: Runs.

func TestRunsOfKnownLists(t *testing.T) {
	for _, c := range []struct {
		list []uint16
		want []part[uint16]
	}{
		{nil, nil},
		{[]uint16{}, nil},
		{[]uint16{0}, []part[uint16]{{0, 1}}},
		{[]uint16{65535}, []part[uint16]{{65535, 1}}},
		{[]uint16{4, 5, 6}, []part[uint16]{{4, 3}}},
		{[]uint16{4, 5, 7}, []part[uint16]{{4, 2}, {7, 1}}},
		{[]uint16{4, 6, 7}, []part[uint16]{{4, 1}, {6, 2}}},
		{[]uint16{4, 4}, []part[uint16]{{4, 1}, {4, 1}}},
		{[]uint16{5, 4, 3}, []part[uint16]{{5, 1}, {4, 1}, {3, 1}}},
		{[]uint16{1, 2, 1, 2, 3}, []part[uint16]{{1, 2}, {1, 3}}},
		{[]uint16{65534, 65535, 0, 1}, []part[uint16]{{65534, 4}}},
		{[]uint16{9, 65535, 0, 2}, []part[uint16]{{9, 1}, {65535, 2}, {2, 1}}},
		{[]uint16{0, 65535}, []part[uint16]{{0, 1}, {65535, 1}}},
		{[]uint16{65535, 1}, []part[uint16]{{65535, 1}, {1, 1}}},
		{[]uint16{0, 32768, 32769}, []part[uint16]{{0, 1}, {32768, 2}}},
	} {
		if got := parts(Runs(c.list...)); !slices.Equal(got, c.want) {
			t.Errorf("Runs of %d is %d", c.list, got)
		}
	}
}

func TestRunsOfTheEndOf16BitsIn32(t *testing.T) {
	if got := parts(Runs(uint32(65535), 65536, 0)); !slices.Equal(got, []part[uint32]{{65535, 2}, {0, 1}}) {
		t.Errorf("Runs is %d", got)
	}
	if got := parts(Runs(uint32(math.MaxUint32), 0, 1)); !slices.Equal(got, []part[uint32]{{math.MaxUint32, 3}}) {
		t.Errorf("Runs is %d", got)
	}
}

func testRuns[T Number](t *testing.T) {
	r := rand.New(rand.NewSource(7))
	starts := edges[T]()
	for range 300 {
		var list []T
		var want []part[T]
		for range r.Intn(8) {
			p := part[T]{starts[r.Intn(len(starts))], 1 + r.Intn(6)}
			last := len(list) - 1
			if last >= 0 && slowFar(list[last], p.first) == 1 {
				want[len(want)-1].n += p.n
			} else {
				want = append(want, p)
			}
			for i := range p.n {
				list = append(list, T((int(p.first)+i)%round[T]()))
			}
		}
		if got := parts(Runs(list...)); !slices.Equal(got, want) {
			t.Fatalf("Runs of %d is %d", list, got)
		}
	}
}

func TestRuns(t *testing.T) {
	eachKind(t, testRuns[uint16], testRuns[uint32], testRuns[seq], testRuns[tsn])
}

func TestRunsOfMoreThanThereAre(t *testing.T) {
	list := append(slices.Collect(Range(seq(40000), 150000)), 7)
	if got := parts(Runs(list...)); !slices.Equal(got, []part[seq]{{40000, 150000}, {7, 1}}) {
		t.Errorf("Runs is %d", got)
	}
}

func TestRunsThatIsLeftEarly(t *testing.T) {
	want := []part[uint16]{{65535, 2}, {5, 1}, {5, 2}, {4, 1}}
	for last := range want {
		var got []part[uint16]
		Runs(uint16(65535), 0, 5, 5, 6, 4)(func(first uint16, n int) bool {
			got = append(got, part[uint16]{first, n})
			return len(got) <= last
		})
		if !slices.Equal(got, want[:last+1]) {
			t.Errorf("Runs, left at part %d, gives %d", last+1, got)
		}
	}
}

func TestRunsThatIsUsedTwice(t *testing.T) {
	runs := Runs(tsn(math.MaxUint32), 0, 5)
	for range runs {
		break
	}
	for range 2 {
		if got := parts(runs); !slices.Equal(got, []part[tsn]{{math.MaxUint32, 2}, {5, 1}}) {
			t.Errorf("Runs is %d", got)
		}
	}
}

// P2.2.

func testJustOneIsAhead[T Number](t *testing.T) {
	list := someNumbers[T](rand.New(rand.NewSource(8)))
	half := T(round[T]() / 2)
	for _, a := range list {
		if Ahead(a, a) {
			t.Errorf("%d is ahead of itself", a)
		}
		if Ahead(a, a+half) || Ahead(a+half, a) {
			t.Errorf("of %d and %d, which differ by half, one is ahead", a, a+half)
		}
		for _, b := range append(list, a+1, a-1, a+half-1, a+half+1) {
			if a != b && b != a+half && Ahead(a, b) == Ahead(b, a) {
				t.Errorf("of %d and %d not just one is ahead", a, b)
			}
		}
	}
}

func TestJustOneIsAhead(t *testing.T) {
	eachKind(t, testJustOneIsAhead[uint16], testJustOneIsAhead[uint32], testJustOneIsAhead[seq], testJustOneIsAhead[tsn])
}

func TestJustOneIsAheadOfEveryDifference(t *testing.T) {
	for far := 1; far < 1<<16; far++ {
		a, b := uint16(50000), uint16(50000+far)
		if far != 1<<15 && Ahead(a, b) == Ahead(b, a) {
			t.Fatalf("of %d and %d not just one is ahead", a, b)
		}
	}
}

func testStepsUndo[T Number](t *testing.T) {
	list := someNumbers[T](rand.New(rand.NewSource(9)))
	for _, a := range list {
		for _, n := range steps[T]() {
			if got := Step(Step(a, n), -n); got != a {
				t.Errorf("from %d, %d there and back is %d", a, n, got)
			}
			if far := Far(a, Step(a, n)); n >= 0 && far != n%round[T]() {
				t.Errorf("%d behind %d is %d behind it", n, a, far)
			}
		}
		for _, b := range list {
			if got := Step(a, Far(a, b)); got != b {
				t.Errorf("what is as far behind %d as %d is %d", a, b, got)
			}
			if got := Step(b, -Far(a, b)); got != a {
				t.Errorf("what is as far ahead of %d as %d is %d", b, a, got)
			}
		}
	}
}

func TestStepsUndo(t *testing.T) {
	eachKind(t, testStepsUndo[uint16], testStepsUndo[uint32], testStepsUndo[seq], testStepsUndo[tsn])
}

// P2.3.

// withRoom is a list with room behind it, and all of its memory.
func withRoom[T Number](list ...T) (given, whole []T) {
	whole = append(slices.Clone(list), 77, 78, 79)
	return whole[:len(list)], whole
}

func TestSortChangesNothing(t *testing.T) {
	for _, list := range [][]uint32{{}, {4}, {3, 1, 2}, {3, 3, 1, 1, 2}, {5, 5, 5}, {0, math.MaxUint32, 1}} {
		given, whole := withRoom(list...)
		Sort(2, given...)
		if !slices.Equal(whole, append(slices.Clone(list), 77, 78, 79)) {
			t.Errorf("of %d Sort made %d", list, whole)
		}
	}
}

func TestSortIsNewMemory(t *testing.T) {
	for _, list := range [][]uint32{{}, {4}, {1, 2, 3}, {3, 1, 2}, {3, 3, 1}} {
		given, whole := withRoom(list...)
		got := Sort(0, given...)
		want := slices.Clone(got)
		for i := range whole {
			whole[i] = 1000
		}
		if !slices.Equal(got, want) {
			t.Errorf("the answer to %d changes with it", list)
		}
		got = got[:cap(got)]
		for i := range got {
			got[i] = 2000
		}
		if slices.Contains(whole, 2000) {
			t.Errorf("%d changes with its answer", list)
		}
	}
}

func TestTwoAnswersOfSortShareNothing(t *testing.T) {
	list := []seq{1, 2, 3}
	one, two := Sort(0, list...), Sort(0, list...)
	one[0] = 9
	if two[0] != 1 {
		t.Error("one answer changes with another")
	}
}

func TestRunsChangesNothing(t *testing.T) {
	list := []uint16{65535, 0, 5, 5, 6, 4}
	given, whole := withRoom(list...)
	parts(Runs(given...))
	if !slices.Equal(whole, append(slices.Clone(list), 77, 78, 79)) {
		t.Errorf("Runs made %d", whole)
	}
}

func TestRunsKeepsNothing(t *testing.T) {
	given, whole := withRoom[uint16](65535, 0, 5, 5, 6, 4)
	runs := Runs(given...)
	for i := range whole {
		whole[i] = 100
	}
	want := []part[uint16]{{65535, 2}, {5, 1}, {5, 2}, {4, 1}}
	if got := parts(runs); !slices.Equal(got, want) {
		t.Errorf("Runs is %d", got)
	}
}

func TestRunsKeepsNothingWhileItIsUsed(t *testing.T) {
	list := []uint16{1, 2, 8, 9}
	var got []part[uint16]
	for first, n := range Runs(list...) {
		got = append(got, part[uint16]{first, n})
		clear(list)
	}
	if !slices.Equal(got, []part[uint16]{{1, 2}, {8, 2}}) {
		t.Errorf("Runs is %d", got)
	}
}
