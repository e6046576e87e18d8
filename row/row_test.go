package row

import (
	"bytes"
	"iter"
	"math"
	"math/rand"
	"slices"
	"strconv"
	"testing"

	"weftline/api"
)

// numbered is a thing and its number.
type numbered[T comparable] struct {
	n uint32
	x T
}

// slowRow is a row by the document's own words: each thing is kept with its
// number, and is looked for among all.
type slowRow[T comparable] struct {
	from uint32
	most int
	all  []numbered[T]
}

// next is the number behind the last thing.
func (s *slowRow[T]) next() uint32 {
	if len(s.all) == 0 {
		return s.from
	}
	return s.all[len(s.all)-1].n + 1
}

func (s *slowRow[T]) push(x T) (uint32, error) {
	if len(s.all) == s.most {
		return 0, api.ErrFull
	}
	n := s.next()
	s.all = append(s.all, numbered[T]{n, x})
	return n, nil
}

func (s *slowRow[T]) pop() (T, error) {
	if len(s.all) == 0 {
		var zero T
		return zero, api.ErrNone
	}
	first := s.all[0]
	s.all = s.all[1:]
	s.from = first.n + 1
	return first.x, nil
}

func (s *slowRow[T]) at(n uint32) (T, bool) {
	for _, e := range s.all {
		if e.n == n {
			return e.x, true
		}
	}
	var zero T
	return zero, false
}

func (s *slowRow[T]) set(n uint32, x T) error {
	for i, e := range s.all {
		if e.n == n {
			s.all[i].x = x
			return nil
		}
	}
	return api.ErrNone
}

func (s *slowRow[T]) cut(n uint32) ([]T, error) {
	allowed := n == s.from
	for _, e := range s.all {
		allowed = allowed || n == e.n+1
	}
	if !allowed {
		return nil, api.ErrRange
	}
	var out []T
	for s.from != n {
		x, _ := s.pop()
		out = append(out, x)
	}
	return out, nil
}

func (s *slowRow[T]) copied() *slowRow[T] {
	return &slowRow[T]{s.from, s.most, slices.Clone(s.all)}
}

// listed is what an iterator gives.
func listed[T comparable](seq iter.Seq2[uint32, T]) []numbered[T] {
	var list []numbered[T]
	for n, x := range seq {
		list = append(list, numbered[T]{n, x})
	}
	return list
}

// about is the numbers to ask a row for: round its beginning, its midst and
// its end, and far away from it.
func about(from, next uint32) []uint32 {
	midst := from + (next-from)/2
	list := []uint32{0, 1, math.MaxUint32, midst + 1<<31, midst + 1<<31 - 1, from + 65536, from + 1024}
	for _, n := range []uint32{from, midst, next} {
		list = append(list, n-2, n-1, n, n+1, n+2)
	}
	return list
}

// same holds all that a row tells against the slow one.
func same[T comparable](t *testing.T, r *Row[T], s *slowRow[T]) {
	t.Helper()
	if r.From() != s.from || r.Next() != s.next() {
		t.Fatalf("From, Next: %x, %x; wanted %x, %x", r.From(), r.Next(), s.from, s.next())
	}
	if r.Len() != len(s.all) || r.Free() != s.most-len(s.all) {
		t.Fatalf("Len, Free: %d, %d; wanted %d of %d", r.Len(), r.Free(), len(s.all), s.most)
	}
	if got := listed(r.All()); !slices.Equal(got, s.all) {
		t.Fatalf("All: %v; wanted %v", got, s.all)
	}
	for _, n := range about(s.from, s.next()) {
		x, ok := r.At(n)
		wx, wok := s.at(n)
		if x != wx || ok != wok {
			t.Fatalf("At(%x): %v, %v; wanted %v, %v", n, x, ok, wx, wok)
		}
	}
}

// made is a row and a slow one of the same beginning, bound and things.
func made[T comparable](t *testing.T, from uint32, most int, things ...T) (*Row[T], *slowRow[T]) {
	t.Helper()
	r, err := New[T](from, most)
	if err != nil || r == nil {
		t.Fatalf("New(%x, %d): %v, %v", from, most, r, err)
	}
	s := &slowRow[T]{from: from, most: most}
	for _, x := range things {
		pushBoth(t, r, s, x)
	}
	return r, s
}

func pushBoth[T comparable](t *testing.T, r *Row[T], s *slowRow[T], x T) {
	t.Helper()
	n, err := r.Push(x)
	wn, werr := s.push(x)
	if n != wn || err != werr {
		t.Fatalf("Push(%v): %x, %v; wanted %x, %v", x, n, err, wn, werr)
	}
	same(t, r, s)
}

func popBoth[T comparable](t *testing.T, r *Row[T], s *slowRow[T]) {
	t.Helper()
	x, err := r.Pop()
	wx, werr := s.pop()
	if x != wx || err != werr {
		t.Fatalf("Pop: %v, %v; wanted %v, %v", x, err, wx, werr)
	}
	same(t, r, s)
}

func setBoth[T comparable](t *testing.T, r *Row[T], s *slowRow[T], n uint32, x T) {
	t.Helper()
	err, werr := r.Set(n, x), s.set(n, x)
	if err != werr {
		t.Fatalf("Set(%x, %v): %v; wanted %v", n, x, err, werr)
	}
	same(t, r, s)
}

func cutBoth[T comparable](t *testing.T, r *Row[T], s *slowRow[T], n uint32) {
	t.Helper()
	list, err := r.Cut(n)
	wlist, werr := s.cut(n)
	if !slices.Equal(list, wlist) || err != werr {
		t.Fatalf("Cut(%x): %v, %v; wanted %v, %v", n, list, err, wlist, werr)
	}
	same(t, r, s)
}

// beginnings is where rows begin: at, about and far from the end of the numbers.
var beginnings = []uint32{0, 1, 2, 7, 65535, 65536, 1<<31 - 2, 1<<31 - 1, 1 << 31, math.MaxUint32 - 2, math.MaxUint32 - 1, math.MaxUint32}

// P3.1: New.

func TestNewTakesOnlyBoundsFrom1To1024(t *testing.T) {
	for _, most := range []int{math.MinInt, math.MinInt + 1, -1024, -1, 0, 1025, 1026, 2048, 1<<32 + 1, math.MaxInt} {
		if r, err := New[int](5, most); r != nil || err != api.ErrRange {
			t.Errorf("New(5, %d): %v, %v", most, r, err)
		}
	}
	for _, most := range []int{1, 2, 3, 100, 1023, 1024} {
		for _, from := range beginnings {
			made[int](t, from, most)
		}
	}
}

func TestNewRowIsEmpty(t *testing.T) {
	for _, from := range beginnings {
		r, s := made[string](t, from, 3)
		same(t, r, s)
		popBoth(t, r, s)
		setBoth(t, r, s, from, "x")
		cutBoth(t, r, s, from+1)
		cutBoth(t, r, s, from-1)
		cutBoth(t, r, s, from)
	}
}

// P3.1: Push and Pop.

func TestPushOfTheChaptersExample(t *testing.T) {
	r, err := New[string](0xffffffff, 2)
	if err != nil {
		t.Fatal(err)
	}
	if n, err := r.Push("a"); n != 0xffffffff || err != nil {
		t.Errorf("Push(a): %x, %v", n, err)
	}
	if n, err := r.Push("b"); n != 0 || err != nil {
		t.Errorf("Push(b): %x, %v", n, err)
	}
	if r.From() != 0xffffffff || r.Next() != 1 || r.Len() != 2 || r.Free() != 0 {
		t.Errorf("%x, %x, %d, %d", r.From(), r.Next(), r.Len(), r.Free())
	}
}

func TestPushIntoAFullRowChangesNothing(t *testing.T) {
	for _, most := range []int{1, 2, 5, 1024} {
		r, err := New[int](math.MaxUint32-1, most)
		if err != nil {
			t.Fatal(err)
		}
		s := &slowRow[int]{from: math.MaxUint32 - 1, most: most}
		for i := range most {
			n, err := r.Push(i)
			if wn, _ := s.push(i); n != wn || err != nil || r.Free() != most-i-1 {
				t.Fatalf("Push(%d): %x, %v", i, n, err)
			}
		}
		for range 3 {
			if n, err := r.Push(-1); n != 0 || err != api.ErrFull {
				t.Errorf("Push into a full row of %d: %x, %v", most, n, err)
			}
			same(t, r, s)
		}
		popBoth(t, r, s)
		pushBoth(t, r, s, -2)
		pushBoth(t, r, s, -3)
	}
}

func TestPopOfAnEmptyRowChangesNothing(t *testing.T) {
	for _, from := range beginnings {
		r, s := made(t, from, 2, "a", "b")
		popBoth(t, r, s)
		popBoth(t, r, s)
		for range 3 {
			if x, err := r.Pop(); x != "" || err != api.ErrNone {
				t.Errorf("Pop of an empty row: %q, %v", x, err)
			}
			same(t, r, s)
		}
		pushBoth(t, r, s, "c")
		popBoth(t, r, s)
	}
}

// P3.1: At and Set.

func TestAtAndSetAboutTheEnds(t *testing.T) {
	for _, from := range beginnings {
		for many := range 5 {
			things := []string{"a", "b", "c", "d"}[:many]
			r, s := made(t, from, 5, things...)
			for i, n := range about(s.from, s.next()) {
				setBoth(t, r, s, n, "new"+strconv.Itoa(i))
			}
		}
	}
}

func TestAtAndSetByKnownNumbers(t *testing.T) {
	r, _ := made(t, 0xfffffffe, 4, "a", "b", "c", "d")
	for i, n := range []uint32{0xfffffffe, 0xffffffff, 0, 1} {
		want := string(rune('a' + i))
		if x, ok := r.At(n); x != want || !ok {
			t.Errorf("At(%x): %q, %v", n, x, ok)
		}
		if err := r.Set(n, want+"!"); err != nil {
			t.Errorf("Set(%x): %v", n, err)
		}
		if x, ok := r.At(n); x != want+"!" || !ok {
			t.Errorf("At(%x) behind Set: %q, %v", n, x, ok)
		}
	}
	for _, n := range []uint32{0xfffffffd, 2, 3, 0x7fffffff, 0x80000000} {
		if x, ok := r.At(n); x != "" || ok {
			t.Errorf("At(%x): %q, %v", n, x, ok)
		}
		if err := r.Set(n, "no"); err != api.ErrNone {
			t.Errorf("Set(%x): %v", n, err)
		}
	}
}

func TestSetToAZeroThingKeepsIt(t *testing.T) {
	r, s := made(t, 9, 3, 1, 2, 3)
	setBoth(t, r, s, 10, 0)
	if x, ok := r.At(10); x != 0 || !ok {
		t.Errorf("At(10): %d, %v", x, ok)
	}
	popBoth(t, r, s)
	popBoth(t, r, s)
}

func TestAtAndSetOfAFullGreatRow(t *testing.T) {
	from := uint32(math.MaxUint32 - 500)
	r, err := New[int](from, 1024)
	if err != nil {
		t.Fatal(err)
	}
	for i := range 1024 {
		r.Push(i)
	}
	for i := range 1024 {
		n := from + uint32(i)
		if x, ok := r.At(n); x != i || !ok {
			t.Fatalf("At(%x): %d, %v", n, x, ok)
		}
		if err := r.Set(n, -i); err != nil {
			t.Fatalf("Set(%x): %v", n, err)
		}
	}
	for i, e := range listed(r.All()) {
		if e.n != from+uint32(i) || e.x != -i {
			t.Fatalf("All, %d: %x, %d", i, e.n, e.x)
		}
	}
}

// P3.1: All.

func TestAllOfNothingAndOfSeveral(t *testing.T) {
	for _, from := range beginnings {
		r, _ := made[string](t, from, 3)
		if got := listed(r.All()); len(got) != 0 {
			t.Errorf("All of no thing: %v", got)
		}
		r, _ = made(t, from, 3, "a", "b", "c")
		want := []numbered[string]{{from, "a"}, {from + 1, "b"}, {from + 2, "c"}}
		if got := listed(r.All()); !slices.Equal(got, want) {
			t.Errorf("All: %v; wanted %v", got, want)
		}
	}
}

func TestAllLeftEarlyAndUsedAgain(t *testing.T) {
	r, s := made(t, math.MaxUint32, 5, 1, 2, 3, 4)
	all := r.All()
	for leave := 1; leave <= 4; leave++ {
		var got []numbered[int]
		// An iterator that goes on where it was left would be told here:
		// a range statement would not let it.
		all(func(n uint32, x int) bool {
			got = append(got, numbered[int]{n, x})
			return len(got) < leave
		})
		if !slices.Equal(got, s.all[:leave]) {
			t.Errorf("left behind %d: %v", leave, got)
		}
		if got := listed(all); !slices.Equal(got, s.all) {
			t.Errorf("used again: %v", got)
		}
	}
	same(t, r, s)
}

func TestAllIsAsTheRowIsWhenItIsGoneThrough(t *testing.T) {
	r, s := made(t, 0xfffffffe, 4, "a", "b")
	all := r.All()
	changes := []func(){
		func() { pushBoth(t, r, s, "c") },
		func() { setBoth(t, r, s, 0xffffffff, "B") },
		func() { popBoth(t, r, s) },
		func() { pushBoth(t, r, s, "d") },
		func() { cutBoth(t, r, s, 1) },
		func() { cutBoth(t, r, s, 2) },
		func() { pushBoth(t, r, s, "e") },
	}
	for i, change := range changes {
		change()
		if got := listed(all); !slices.Equal(got, s.all) {
			t.Errorf("behind change %d: %v; wanted %v", i, got, s.all)
		}
	}
}

func TestAllOfARowThatChangesMeanwhile(t *testing.T) {
	// Every thing is told as it is when its turn comes, with its own number;
	// one that is out isn't, and there is an end though more are pushed.
	tests := []struct {
		name   string
		change func(r *Row[int])
		want   []numbered[int]
	}{
		{"pop", func(r *Row[int]) { r.Pop() }, []numbered[int]{{7, 1}, {8, 2}, {9, 3}}},
		{"pop and push", func(r *Row[int]) { r.Pop(); r.Push(5) }, []numbered[int]{{7, 1}, {8, 2}, {9, 3}}},
		{"set", func(r *Row[int]) { r.Set(9, 33) }, []numbered[int]{{7, 1}, {8, 2}, {9, 33}}},
		{"cut one more", func(r *Row[int]) { r.Cut(9) }, []numbered[int]{{7, 1}, {9, 3}}},
		{"cut all", func(r *Row[int]) { r.Cut(r.Next()) }, []numbered[int]{{7, 1}}},
	}
	for _, test := range tests {
		r, _ := made(t, 7, 4, 1, 2, 3)
		var got []numbered[int]
		for n, x := range r.All() {
			got = append(got, numbered[int]{n, x})
			test.change(r)
		}
		if !slices.Equal(got, test.want) {
			t.Errorf("%s: %v; wanted %v", test.name, got, test.want)
		}
	}
}

// P3.1: Cut.

func TestCutAtEveryNumberAbout(t *testing.T) {
	for _, from := range beginnings {
		for many := range 5 {
			for _, n := range about(from, from+uint32(many)) {
				r, s := made(t, from, 5, []string{"a", "b", "c", "d"}[:many]...)
				cutBoth(t, r, s, n)
				pushBoth(t, r, s, "z")
				cutBoth(t, r, s, s.next())
			}
		}
	}
}

func TestCutByKnownNumbers(t *testing.T) {
	tests := []struct {
		n    uint32
		want []string
		err  error
	}{
		{0xfffffffd, nil, api.ErrRange},
		{0xfffffffe, nil, nil},
		{0xffffffff, []string{"a"}, nil},
		{0, []string{"a", "b"}, nil},
		{1, []string{"a", "b", "c"}, nil},
		{2, nil, api.ErrRange},
		{0x7ffffffe, nil, api.ErrRange},
	}
	for _, test := range tests {
		r, _ := made(t, 0xfffffffe, 4, "a", "b", "c")
		got, err := r.Cut(test.n)
		if !slices.Equal(got, test.want) || err != test.err {
			t.Errorf("Cut(%x): %v, %v; wanted %v, %v", test.n, got, err, test.want, test.err)
		}
		from := test.n
		if test.err != nil {
			from = 0xfffffffe
		}
		if r.From() != from || r.Next() != 1 || r.Len() != 3-len(test.want) || r.Free() != 1+len(test.want) {
			t.Errorf("behind Cut(%x): %x, %x, %d, %d", test.n, r.From(), r.Next(), r.Len(), r.Free())
		}
	}
}

// P3.1: a nil row.

func TestNilRow(t *testing.T) {
	t.Run("int", nilRow[int])
	t.Run("string", nilRow[string])
	t.Run("struct", nilRow[numbered[string]])
	t.Run("pointer", nilRow[*int])
}

func nilRow[T comparable](t *testing.T) {
	var r *Row[T]
	var zero T
	if n, err := r.Push(zero); n != 0 || err != api.ErrFull {
		t.Errorf("Push: %x, %v", n, err)
	}
	if x, err := r.Pop(); x != zero || err != api.ErrNone {
		t.Errorf("Pop: %v, %v", x, err)
	}
	for _, n := range []uint32{0, 1, 7, 1 << 31, math.MaxUint32} {
		if x, ok := r.At(n); x != zero || ok {
			t.Errorf("At(%x): %v, %v", n, x, ok)
		}
		if err := r.Set(n, zero); err != api.ErrNone {
			t.Errorf("Set(%x): %v", n, err)
		}
		if list, err := r.Cut(n); len(list) != 0 || err != api.ErrNone {
			t.Errorf("Cut(%x): %v, %v", n, list, err)
		}
	}
	if r.From() != 0 || r.Next() != 0 || r.Len() != 0 || r.Free() != 0 {
		t.Errorf("%x, %x, %d, %d", r.From(), r.Next(), r.Len(), r.Free())
	}
	if all := r.All(); all == nil || len(listed(all)) != 0 {
		t.Errorf("All: %v", all)
	}
	if c := r.Copy(); c != nil {
		t.Errorf("Copy: %v", c)
	}
}

// P3.1: all calls in any order.

func TestAnyOrderOfCalls(t *testing.T) {
	t.Run("int", func(t *testing.T) { anyOrder(t, 1, func(i int) int { return i }) })
	t.Run("string", func(t *testing.T) { anyOrder(t, 2, strconv.Itoa) })
	t.Run("byte", func(t *testing.T) { anyOrder(t, 3, func(i int) byte { return byte(i) }) })
	t.Run("array", func(t *testing.T) { anyOrder(t, 4, func(i int) [3]int { return [3]int{i, 2 * i, -i} }) })
	t.Run("pointer", func(t *testing.T) { anyOrder(t, 5, func(i int) *int { return &i }) })
	t.Run("struct", func(t *testing.T) {
		anyOrder(t, 6, func(i int) numbered[string] { return numbered[string]{uint32(i), strconv.Itoa(i)} })
	})
	t.Run("nothing", func(t *testing.T) { anyOrder(t, 7, func(int) struct{} { return struct{}{} }) })
	t.Run("any", func(t *testing.T) {
		anyOrder(t, 8, func(i int) any {
			if i%3 == 0 {
				return nil
			}
			return i
		})
	})
}

func anyOrder[T comparable](t *testing.T, seed int64, thing func(int) T) {
	draw := rand.New(rand.NewSource(seed))
	for range 60 {
		from := beginnings[draw.Intn(len(beginnings))]
		r, s := made[T](t, from, 1+draw.Intn(12))
		for i := range 80 {
			anyCall(t, draw, r, s, thing(i))
			if draw.Intn(10) == 0 {
				// One of the two goes on, the other one must stay as it is.
				r, s = copyAndGoOn(t, draw, r, s, thing(i))
			}
		}
	}
}

func anyCall[T comparable](t *testing.T, draw *rand.Rand, r *Row[T], s *slowRow[T], x T) {
	t.Helper()
	numbers := about(s.from, s.next())
	n := numbers[draw.Intn(len(numbers))]
	switch draw.Intn(6) {
	case 0, 1, 2:
		pushBoth(t, r, s, x)
	case 3:
		popBoth(t, r, s)
	case 4:
		setBoth(t, r, s, n, x)
	case 5:
		cutBoth(t, r, s, n)
	}
}

func copyAndGoOn[T comparable](t *testing.T, draw *rand.Rand, r *Row[T], s *slowRow[T], x T) (*Row[T], *slowRow[T]) {
	t.Helper()
	c, sc := r.Copy(), s.copied()
	same(t, c, sc)
	for range 4 {
		anyCall(t, draw, r, s, x)
		same(t, c, sc)
	}
	for range 4 {
		anyCall(t, draw, c, sc, x)
		same(t, r, s)
	}
	if draw.Intn(2) == 0 {
		return c, sc
	}
	return r, s
}

// P3.2: what was pushed comes out in that order, with the numbers that were told.

func TestWhatWasPushedComesOutInOrder(t *testing.T) {
	draw := rand.New(rand.NewSource(9))
	for _, most := range []int{1, 2, 3, 10, 100, 1024} {
		for _, from := range []uint32{0, 5, math.MaxUint32 - 3, math.MaxUint32 - 700} {
			pushedComesOut(t, draw, from, most)
		}
	}
}

// pushedComesOut pushes the numbers from 0 on, so that each thing tells which
// one it is, and takes them out by Pop and Cut.
func pushedComesOut(t *testing.T, draw *rand.Rand, from uint32, most int) {
	r, err := New[int](from, most)
	if err != nil {
		t.Fatal(err)
	}
	in, out := 0, 0
	for out < 3000 {
		for range draw.Intn(most) + 1 {
			n, err := r.Push(in)
			if in-out == most && err == api.ErrFull {
				break
			}
			if n != from+uint32(in) || err != nil {
				t.Fatalf("Push(%d): %x, %v", in, n, err)
			}
			in++
		}
		for n, x := range r.All() {
			if n != from+uint32(x) {
				t.Fatalf("All: %x, %d", n, x)
			}
		}
		out = takeSome(t, draw, r, out)
		if r.From() != from+uint32(out) || r.Next() != from+uint32(in) || r.Len() != in-out {
			t.Fatalf("%x, %x, %d behind %d in, %d out", r.From(), r.Next(), r.Len(), in, out)
		}
	}
}

// takeSome takes some things out, of which the first is to be out: which one
// is to be the next.
func takeSome(t *testing.T, draw *rand.Rand, r *Row[int], out int) int {
	t.Helper()
	many := draw.Intn(r.Len() + 1)
	if draw.Intn(2) == 0 {
		list, err := r.Cut(r.From() + uint32(many))
		if len(list) != many || err != nil {
			t.Fatalf("Cut: %v, %v", list, err)
		}
		for _, x := range list {
			if x != out {
				t.Fatalf("Cut: %d; wanted %d", x, out)
			}
			out++
		}
		return out
	}
	for range many {
		if x, err := r.Pop(); x != out || err != nil {
			t.Fatalf("Pop: %d, %v; wanted %d", x, err, out)
		}
		out++
	}
	return out
}

// P3.3: copies are apart; lists that are answered are new memory.

func TestCopyIsTheSameAndApart(t *testing.T) {
	changes := []func(r *Row[string], s *slowRow[string]){
		func(r *Row[string], s *slowRow[string]) { pushBoth(t, r, s, "x") },
		func(r *Row[string], s *slowRow[string]) { popBoth(t, r, s) },
		func(r *Row[string], s *slowRow[string]) { setBoth(t, r, s, 0, "S") },
		func(r *Row[string], s *slowRow[string]) { cutBoth(t, r, s, 0) },
		func(r *Row[string], s *slowRow[string]) { cutBoth(t, r, s, 2) },
	}
	for _, change := range changes {
		r, s := made(t, 0xffffffff, 5, "a", "b", "c")
		c, sc := r.Copy(), s.copied()
		same(t, c, sc)
		change(r, s)
		same(t, c, sc)
		pushBoth(t, r, s, "of the origin")
		pushBoth(t, c, sc, "of the copy")
		same(t, r, s)
		change(c, sc)
		same(t, r, s)
	}
}

func TestCopyOfAnEmptyAndOfAFullRow(t *testing.T) {
	r, s := made[int](t, 77, 2)
	c, sc := r.Copy(), s.copied()
	same(t, c, sc)
	pushBoth(t, c, sc, 1)
	pushBoth(t, c, sc, 2)
	same(t, r, s)
	full, sfull := c.Copy(), sc.copied()
	pushBoth(t, full, sfull, 3)
	popBoth(t, full, sfull)
	pushBoth(t, full, sfull, 4)
	same(t, c, sc)
}

func TestIteratorOfACopyTellsTheCopy(t *testing.T) {
	r, s := made(t, 3, 4, 1, 2)
	c, sc := r.Copy(), s.copied()
	ofOrigin, ofCopy := r.All(), c.All()
	pushBoth(t, r, s, 3)
	setBoth(t, c, sc, 3, 9)
	if got := listed(ofOrigin); !slices.Equal(got, s.all) {
		t.Errorf("the origin's: %v; wanted %v", got, s.all)
	}
	if got := listed(ofCopy); !slices.Equal(got, sc.all) {
		t.Errorf("the copy's: %v; wanted %v", got, sc.all)
	}
}

func TestCutListIsNewMemory(t *testing.T) {
	for _, n := range []uint32{0xfffffffe, 0xffffffff, 0, 1, 2} {
		r, s := made(t, 0xfffffffe, 5, "a", "b", "c", "d")
		list, err := r.Cut(n)
		want, _ := s.cut(n)
		if err != nil || !slices.Equal(list, want) {
			t.Fatalf("Cut(%x): %v, %v", n, list, err)
		}
		room := list[:cap(list)]
		for i := range room {
			room[i] = "spoilt"
		}
		_ = append(list, "behind", "it", "and", "more")
		same(t, r, s)
		kept := slices.Clone(room)
		for s.next()-s.from < 5 {
			pushBoth(t, r, s, "new")
		}
		for i := range uint32(5) {
			setBoth(t, r, s, s.from+i, "set")
		}
		if !slices.Equal(room, kept) {
			t.Errorf("Cut(%x): the list changed with the row: %v", n, room)
		}
	}
}

func TestListsOfTwoCutsAreApart(t *testing.T) {
	r, _ := made(t, 0, 6, 1, 2, 3, 4, 5, 6)
	first, _ := r.Cut(2)
	second, _ := r.Cut(5)
	for i := range first[:cap(first)] {
		first[:cap(first)][i] = -1
	}
	if !slices.Equal(second, []int{3, 4, 5}) {
		t.Errorf("the second list changed with the first one: %v", second)
	}
	if x, err := r.Pop(); x != 6 || err != nil {
		t.Errorf("Pop: %d, %v", x, err)
	}
}

func TestThingsThatCantBeCompared(t *testing.T) {
	r, err := New[[]byte](math.MaxUint32, 2)
	if err != nil {
		t.Fatal(err)
	}
	r.Push([]byte("ab"))
	r.Push(nil)
	if x, ok := r.At(0); x != nil || !ok {
		t.Errorf("At(0): %v, %v", x, ok)
	}
	c := r.Copy()
	if err := r.Set(math.MaxUint32, []byte("cd")); err != nil {
		t.Error(err)
	}
	if x, err := c.Pop(); !bytes.Equal(x, []byte("ab")) || err != nil {
		t.Errorf("Pop of the copy: %q, %v", x, err)
	}
	if list, err := r.Cut(1); err != nil || len(list) != 2 || !bytes.Equal(list[0], []byte("cd")) || list[1] != nil {
		t.Errorf("Cut: %q, %v", list, err)
	}
	if x, err := r.Pop(); x != nil || err != api.ErrNone {
		t.Errorf("Pop: %v, %v", x, err)
	}
}

// No more is kept than the promises need: what is out isn't held any more.
func TestWhatIsOutIsNotHeld(t *testing.T) {
	r, _ := made[*int](t, 0, 8)
	for range 8 {
		r.Push(new(int))
	}
	memory := r.things[:cap(r.things)]
	first, _ := r.Pop()
	others, _ := r.Cut(3)
	for i, x := range memory {
		if x != nil && (x == first || slices.Contains(others, x)) {
			t.Errorf("place %d of the row's memory holds what is out", i)
		}
	}
	r.Cut(r.Next())
	for i, x := range memory {
		if x != nil {
			t.Errorf("place %d of an empty row's memory holds a thing", i)
		}
	}
}

func TestLongUseTakesNoMoreMemory(t *testing.T) {
	r, _ := made[int](t, 0, 4)
	most := 0
	for i := range 10000 {
		r.Push(i)
		r.Push(i)
		r.Pop()
		r.Cut(r.Next())
		most = max(most, cap(r.things))
	}
	if most > 16 {
		t.Errorf("a row of 4 things has room for %d", most)
	}
}
