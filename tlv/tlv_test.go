package tlv

import (
	"bytes"
	"encoding/binary"
	"math"
	"math/rand"
	"slices"
	"strconv"
	"testing"

	"weftline/api"
)

var (
	sizes   = []int{1, 2, 4, 8}
	noSizes = []int{0, 3, 5, 6, 7, 9, 10, 16, 64, -1, -2, -4, -8, 257, 258, 1<<32 + 1, 1<<32 + 4, math.MinInt64, math.MinInt64 + 1, math.MinInt64 + 8, math.MaxInt64}
)

// edgesOf is numbers at the edges of a size: nought, the greatest one, and above it.
func edgesOf(size int) []uint64 {
	greatest := uint64(math.MaxUint64) >> (64 - 8*size)
	return []uint64{0, 1, 127, 128, 255, 256, greatest - 1, greatest, greatest + 1, greatest + 2, greatest<<8 | 7, greatest / 2, greatest/2 + 1, 0x0102030405060708, 0xfffefdfcfbfaf9f8, 1 << 63, math.MaxUint64}
}

// lowBytes is a number's low bytes, the high one first, by the library.
func lowBytes(n uint64, size int) []byte {
	return binary.BigEndian.AppendUint64(nil, n)[8-size:]
}

// slowPad puts noughts behind, one by one.
func slowPad(b []byte) []byte {
	for len(b)%4 != 0 {
		b = append(b, 0)
	}
	return b
}

// slowWrite is the parameters' bytes by the chapter's own words.
func slowWrite(list ...Param) []byte {
	var out []byte
	for _, p := range list {
		one := []byte{byte(p.Kind / 256), byte(p.Kind % 256), byte((len(p.Value) + 4) / 256), byte((len(p.Value) + 4) % 256)}
		out = append(out, slowPad(append(one, p.Value...))...)
	}
	return out
}

// slowParams is the parameters of bytes by the chapter's own words, and whether they are just that.
func slowParams(b []byte) ([]Param, bool) {
	var list []Param
	for len(b) > 0 {
		if len(b) < 4 {
			return nil, false
		}
		kind, size := int(b[0])*256+int(b[1]), int(b[2])*256+int(b[3])
		if size < 4 || size > 4004 {
			return nil, false
		}
		whole := size
		for whole%4 != 0 {
			whole++
		}
		if whole > len(b) || slices.ContainsFunc(b[size:whole], func(x byte) bool { return x != 0 }) {
			return nil, false
		}
		list = append(list, Param{Kind: kind, Value: b[4:size]})
		b = b[whole:]
	}
	return list, true
}

func sameParams(a, b []Param) bool {
	return slices.EqualFunc(a, b, func(x, y Param) bool {
		return x.Kind == y.Kind && bytes.Equal(x.Value, y.Value)
	})
}

func randomBytes(r *rand.Rand, n int) []byte {
	b := make([]byte, n)
	r.Read(b)
	return b
}

// someBytes is n bytes of which none is nought.
func someBytes(n int) []byte {
	b := make([]byte, n)
	for k := range b {
		b[k] = byte(k%255 + 1)
	}
	return b
}

func mustWrite(t *testing.T, list ...Param) []byte {
	t.Helper()
	b, err := Write(list...)
	if err != nil {
		t.Fatal(err)
	}
	return b
}

// isWrong tells of a reader that isn't wrong for good: whatever is asked next is nothing.
func isWrong(t *testing.T, what string, i *In) {
	t.Helper()
	for round := range 2 {
		if i.Left() != 0 || i.End() != api.ErrForm {
			t.Errorf("%s, round %d: %d bytes left, %v", what, round, i.Left(), i.End())
		}
		for _, size := range append([]int{3, 0, -1}, sizes...) {
			if n := i.Num(size); n != 0 {
				t.Errorf("%s: Num(%d) of a wrong reader: %d", what, size, n)
			}
		}
		for _, n := range []int{1, 0, 2, 4, -1, math.MinInt64, math.MaxInt64} {
			if b := i.Take(n); len(b) != 0 {
				t.Errorf("%s: Take(%d) of a wrong reader: %x", what, n, b)
			}
		}
		i.Pad()
		if i.Left() != 0 || i.End() != api.ErrForm {
			t.Errorf("%s, round %d, behind it: %d bytes left, %v", what, round, i.Left(), i.End())
		}
	}
}

// at is a reader of bytes, of which so many are read.
func at(b []byte, place int) *In {
	i := Read(b)
	i.Take(place)
	return i
}

// P6.1: Out.

func TestNumPutsLowBytes(t *testing.T) {
	for _, size := range sizes {
		for _, n := range edgesOf(size) {
			var o Out
			o.Num(n, size)
			if got, want := o.Bytes(), lowBytes(n, size); !bytes.Equal(got, want) {
				t.Errorf("Num(%x, %d): %x, not %x", n, size, got, want)
			}
		}
	}
}

func TestNumOfKnownBytes(t *testing.T) {
	var o Out
	o.Num(0x0102030405060708, 8)
	o.Num(0x0102030405060708, 4)
	o.Num(0x0102030405060708, 2)
	o.Num(0x0102030405060708, 1)
	o.Num(math.MaxUint64, 1)
	o.Num(5, 2)
	if want := []byte{1, 2, 3, 4, 5, 6, 7, 8, 5, 6, 7, 8, 7, 8, 8, 255, 0, 5}; !bytes.Equal(o.Bytes(), want) {
		t.Errorf("%x, not %x", o.Bytes(), want)
	}
}

func TestNumOfNoSizePutsNothing(t *testing.T) {
	for _, size := range noSizes {
		var o Out
		o.Num(math.MaxUint64, size)
		if len(o.Bytes()) != 0 {
			t.Errorf("size %d, of a zero Out: %x", size, o.Bytes())
		}
		o.Put([]byte("ab"))
		o.Num(0x0102030405060708, size)
		o.Num(9, 1)
		if string(o.Bytes()) != "ab\x09" {
			t.Errorf("size %d: %x", size, o.Bytes())
		}
	}
}

func TestPutPutsBytesBehind(t *testing.T) {
	var o Out
	var want []byte
	for _, n := range []int{0, 1, 2, 3, 4, 5, 0, 8, 100, 4001, 70000} {
		b := someBytes(n)
		o.Put(b)
		want = append(want, b...)
		if !bytes.Equal(o.Bytes(), want) {
			t.Fatalf("%d bytes behind: %d bytes in all, not %d", n, len(o.Bytes()), len(want))
		}
	}
	o.Put(nil)
	o.Put([]byte{})
	if !bytes.Equal(o.Bytes(), want) {
		t.Error("putting nothing put something")
	}
}

func TestPadOfAnOut(t *testing.T) {
	for n, noughts := range []int{0, 3, 2, 1, 0, 3, 2, 1, 0, 3} {
		var o Out
		o.Put(someBytes(n))
		for range 3 {
			o.Pad()
			if want := append(someBytes(n), make([]byte, noughts)...); !bytes.Equal(o.Bytes(), want) {
				t.Errorf("%d bytes, padded: %x, not %x", n, o.Bytes(), want)
			}
		}
		o.Num(0xff, 1)
		if want := append(append(someBytes(n), make([]byte, noughts)...), 0xff); !bytes.Equal(o.Bytes(), want) {
			t.Errorf("%d bytes, padded, and one behind: %x, not %x", n, o.Bytes(), want)
		}
	}
}

// Noughts that were put are no padding: as many come behind them as behind others.
func TestPadBehindNoughts(t *testing.T) {
	for n := range 10 {
		var o Out
		o.Put(make([]byte, n))
		o.Pad()
		if want := (n + 3) / 4 * 4; len(o.Bytes()) != want {
			t.Errorf("%d noughts, padded: %d, not %d", n, len(o.Bytes()), want)
		}
	}
}

func TestZeroAndNilOut(t *testing.T) {
	for _, o := range []*Out{{}, new(Out), nil} {
		if len(o.Bytes()) != 0 {
			t.Errorf("%x", o.Bytes())
		}
		o.Pad()
		o.Put(nil)
		o.Num(1, 0)
		if len(o.Bytes()) != 0 {
			t.Errorf("nothing was put: %x", o.Bytes())
		}
	}
	var none *Out
	for range 2 {
		for _, size := range slices.Concat(noSizes, sizes) {
			none.Num(7, size)
		}
		none.Put([]byte("abc"))
		none.Pad()
		if len(none.Bytes()) != 0 {
			t.Errorf("a nil Out: %x", none.Bytes())
		}
	}
}

func TestOutInAnyOrder(t *testing.T) {
	r := rand.New(rand.NewSource(1))
	for range 300 {
		var o Out
		var want []byte
		for range r.Intn(30) {
			switch r.Intn(5) {
			case 0:
				n, size := r.Uint64(), sizes[r.Intn(4)]
				o.Num(n, size)
				want = append(want, lowBytes(n, size)...)
			case 1:
				b := randomBytes(r, r.Intn(20))
				o.Put(b)
				want = append(want, b...)
			case 2:
				o.Pad()
				want = slowPad(want)
			case 3:
				o.Num(r.Uint64(), noSizes[r.Intn(len(noSizes))])
			case 4:
				clear(o.Bytes())
			}
			if !bytes.Equal(o.Bytes(), want) {
				t.Fatalf("%x, not %x", o.Bytes(), want)
			}
		}
	}
}

// P6.1: In.

func TestReaderAtItsEnd(t *testing.T) {
	for name, made := range map[string]func() *In{
		"nil":     func() *In { return Read(nil) },
		"empty":   func() *In { return Read([]byte{}) },
		"all out": func() *In { return at(someBytes(8), 8) },
	} {
		i := made()
		if i == nil || i.Left() != 0 || i.End() != nil || len(i.Take(0)) != 0 || i.End() != nil {
			t.Errorf("%s: not at its end", name)
		}
		if i.Pad(); i.End() != nil {
			t.Errorf("%s: Pad at a multiple of four made it wrong", name)
		}
		for _, size := range slices.Concat(noSizes, sizes) {
			i := made()
			if n := i.Num(size); n != 0 {
				t.Errorf("%s: Num(%d): %d", name, size, n)
			}
			isWrong(t, name+", Num("+strconv.Itoa(size)+")", i)
		}
		for _, n := range []int{1, 2, 100, -1, math.MinInt64, math.MaxInt64} {
			i := made()
			if b := i.Take(n); len(b) != 0 {
				t.Errorf("%s: Take(%d): %x", name, n, b)
			}
			isWrong(t, name+", Take("+strconv.Itoa(n)+")", i)
		}
	}
}

func TestNumReadsTheNextNumber(t *testing.T) {
	i := Read([]byte{1, 2, 3, 4, 5, 6, 7, 8, 9, 10, 11, 12, 13, 14, 15})
	if n := i.Num(1); n != 1 || i.Left() != 14 {
		t.Errorf("%x, %d left", n, i.Left())
	}
	if n := i.Num(2); n != 0x0203 || i.Left() != 12 {
		t.Errorf("%x, %d left", n, i.Left())
	}
	if n := i.Num(4); n != 0x04050607 || i.Left() != 8 {
		t.Errorf("%x, %d left", n, i.Left())
	}
	if i.End() != api.ErrForm {
		t.Error("an end where bytes are left")
	}
	if n := i.Num(8); n != 0x08090a0b0c0d0e0f || i.Left() != 0 || i.End() != nil {
		t.Errorf("%x, %d left, %v", n, i.Left(), i.End())
	}
	for _, size := range sizes {
		full := bytes.Repeat([]byte{0xff}, size)
		if n := Read(full).Num(size); n != math.MaxUint64>>(64-8*size) {
			t.Errorf("the greatest number of size %d: %x", size, n)
		}
	}
}

func TestNumOfTooFewBytes(t *testing.T) {
	for _, size := range sizes {
		for place := range 5 {
			for left := range size {
				i := at(someBytes(place+left), place)
				if n := i.Num(size); n != 0 {
					t.Errorf("Num(%d) of %d bytes: %x", size, left, n)
				}
				isWrong(t, "Num("+strconv.Itoa(size)+") of "+strconv.Itoa(left)+" bytes", i)
			}
			i := at(someBytes(place+size), place)
			if n := i.Num(size); n == 0 || i.End() != nil {
				t.Errorf("Num(%d) of just as many bytes: %x, %v", size, n, i.End())
			}
		}
	}
}

func TestNumOfNoSizeIsWrong(t *testing.T) {
	for _, size := range noSizes {
		i := at(someBytes(40), 4)
		if n := i.Num(size); n != 0 {
			t.Errorf("Num(%d): %x", size, n)
		}
		isWrong(t, "Num("+strconv.Itoa(size)+")", i)
	}
}

func TestTake(t *testing.T) {
	whole := someBytes(20)
	for place := range 21 {
		for n := range 20 - place + 1 {
			i := at(whole, place)
			if b := i.Take(n); !bytes.Equal(b, whole[place:place+n]) || i.Left() != 20-place-n {
				t.Errorf("Take(%d) at %d: %x, %d left", n, place, b, i.Left())
			}
			if want := place+n < 20; (i.End() != nil) != want {
				t.Errorf("Take(%d) at %d: %v", n, place, i.End())
			}
			// The next one goes on where this one ended.
			if b := i.Take(i.Left()); !bytes.Equal(b, whole[place+n:]) || i.End() != nil {
				t.Errorf("behind Take(%d) at %d: %x, %v", n, place, b, i.End())
			}
		}
		for _, n := range []int{20 - place + 1, 21, 1 << 32, 1<<32 + 1, -1, -place, -place - 1, math.MinInt64, math.MinInt64 + 1, math.MaxInt64, math.MaxInt64 - place, math.MaxInt64 - place + 1} {
			if n == 0 {
				continue
			}
			i := at(whole, place)
			if b := i.Take(n); len(b) != 0 {
				t.Errorf("Take(%d) at %d: %x", n, place, b)
			}
			isWrong(t, "Take("+strconv.Itoa(n)+")", i)
		}
	}
}

func TestPadOfAReader(t *testing.T) {
	for place := range 9 {
		noughts := (4 - place%4) % 4
		what := "place " + strconv.Itoa(place)
		for behind := range 6 {
			// Behind the padding there is something that must not be touched.
			b := slices.Concat(someBytes(place), make([]byte, noughts), someBytes(behind))
			i := at(b, place)
			for range 2 {
				i.Pad()
				if i.Left() != behind || (i.End() == nil) != (behind == 0) {
					t.Errorf("%s, %d behind: %d left, %v", what, behind, i.Left(), i.End())
				}
			}
			if got := i.Take(behind); !bytes.Equal(got, someBytes(behind)) || i.End() != nil {
				t.Errorf("%s, %d behind: %x", what, behind, got)
			}
			for k := range noughts {
				for _, other := range []byte{1, 128, 255} {
					c := slices.Clone(b)
					c[place+k] = other
					i := at(c, place)
					i.Pad()
					isWrong(t, what+", something else", i)
				}
			}
		}
		for few := range noughts {
			i := at(append(someBytes(place), make([]byte, few)...), place)
			i.Pad()
			isWrong(t, what+", too few", i)
		}
	}
}

// At a multiple of four nothing is passed over, be it nought or not.
func TestPadPassesOverNoMore(t *testing.T) {
	for _, place := range []int{0, 4, 8} {
		i := at(make([]byte, 16), place)
		if i.Pad(); i.Left() != 16-place {
			t.Errorf("place %d: %d left", place, i.Left())
		}
	}
	i := at(make([]byte, 16), 1)
	if i.Pad(); i.Left() != 12 {
		t.Errorf("place 1: %d left", i.Left())
	}
}

// The place is counted from where the reader began, not from the last thing that was read.
func TestPadIsByThePlace(t *testing.T) {
	i := Read([]byte{1, 2, 3, 0, 5, 6, 0, 0, 9})
	if i.Num(2); string(i.Take(1)) != "\x03" {
		t.Error("Take")
	}
	if i.Pad(); i.Left() != 5 || i.Num(1) != 5 || i.Num(1) != 6 {
		t.Error("Pad at 3")
	}
	if i.Pad(); i.Left() != 1 || i.Num(1) != 9 || i.End() != nil {
		t.Error("Pad at 6")
	}
	i.Pad()
	isWrong(t, "Pad at 9", i)
}

func TestNilReader(t *testing.T) {
	var i *In
	isWrong(t, "a nil reader", i)
	for _, size := range slices.Concat(noSizes, sizes) {
		if i.Num(size) != 0 || len(i.Take(size)) != 0 {
			t.Errorf("a nil reader, %d", size)
		}
	}
}

func TestEndWithBytesLeft(t *testing.T) {
	for left := range 10 {
		i := at(make([]byte, 10), 10-left)
		// Asking doesn't change it.
		for range 2 {
			if (i.End() == api.ErrForm) != (left > 0) || i.Left() != left {
				t.Errorf("%d left: %v, %d", left, i.End(), i.Left())
			}
		}
		if len(i.Take(left)) != left || i.End() != nil {
			t.Errorf("%d left: not read behind End", left)
		}
	}
}

// slowIn is a reader by the chapter's own words.
type slowIn struct {
	all, rest []byte
	wrong     bool
}

func (s *slowIn) take(n int) []byte {
	if s.wrong || n < 0 || n > len(s.rest) {
		s.wrong = true
		return nil
	}
	b := s.rest[:n]
	s.rest = s.rest[n:]
	return b
}

func (s *slowIn) num(size int) uint64 {
	if !slices.Contains(sizes, size) {
		s.wrong = true
		return 0
	}
	b := s.take(size)
	return binary.BigEndian.Uint64(append(make([]byte, 8-len(b)), b...))
}

func (s *slowIn) pad() {
	for !s.wrong && (len(s.all)-len(s.rest))%4 != 0 {
		if b := s.take(1); len(b) == 1 && b[0] != 0 {
			s.wrong = true
		}
	}
}

func (s *slowIn) left() int {
	if s.wrong {
		return 0
	}
	return len(s.rest)
}

func TestReaderInAnyOrder(t *testing.T) {
	r := rand.New(rand.NewSource(2))
	for range 3000 {
		b := randomBytes(r, r.Intn(40))
		for k := range b {
			if r.Intn(4) > 0 {
				b[k] = 0
			}
		}
		i, s := Read(b), &slowIn{all: b, rest: b}
		for step := range 12 {
			what := r.Intn(10)
			switch {
			case what < 4:
				size := sizes[r.Intn(4)]
				if r.Intn(20) == 0 {
					size = noSizes[r.Intn(len(noSizes))]
				}
				if got, want := i.Num(size), s.num(size); got != want {
					t.Fatalf("%x, step %d: Num(%d): %x, not %x", b, step, size, got, want)
				}
			case what < 7:
				n := r.Intn(8) - r.Intn(20)/19
				if got, want := i.Take(n), s.take(n); !bytes.Equal(got, want) {
					t.Fatalf("%x, step %d: Take(%d): %x, not %x", b, step, n, got, want)
				}
			default:
				i.Pad()
				s.pad()
			}
			if i.Left() != s.left() || (i.End() != nil) != (s.wrong || s.left() > 0) {
				t.Fatalf("%x, step %d: %d left, %v, not %d, %v", b, step, i.Left(), i.End(), s.left(), s.wrong)
			}
		}
	}
}

// P6.1: Write, Params and Action.

func TestTheChaptersExample(t *testing.T) {
	want := []byte{0, 5, 0, 6, 'a', 'b', 0, 0}
	if b, err := Write(Param{Kind: 5, Value: []byte("ab")}); err != nil || !bytes.Equal(b, want) {
		t.Errorf("%x, %v", b, err)
	}
	if list, err := Params(want); err != nil || !sameParams(list, []Param{{Kind: 5, Value: []byte("ab")}}) {
		t.Errorf("%v, %v", list, err)
	}
}

func TestWriteOfNoneOneAndSeveral(t *testing.T) {
	for k, list := range [][]Param{
		nil,
		{},
		{{}},
		{{Kind: 65535}},
		{{Kind: 1, Value: []byte{}}},
		{{Kind: 258, Value: []byte{1}}, {Kind: 258, Value: []byte{1}}},
		{{Kind: 1, Value: []byte{0, 0, 0, 0, 0}}, {}, {Kind: 2, Value: []byte{1, 2, 3}}, {Kind: 0xc001, Value: []byte{4, 3, 2, 1}}},
		slices.Repeat([]Param{{Kind: 7, Value: []byte("seven")}}, 500),
	} {
		b, err := Write(list...)
		if want := slowWrite(list...); err != nil || !bytes.Equal(b, want) {
			t.Errorf("%d: %x, %v, not %x", k, b, err, want)
		}
	}
	if b, err := Write(); err != nil || len(b) != 0 {
		t.Errorf("no parameter: %x, %v", b, err)
	}
}

func TestWriteOfAllLengths(t *testing.T) {
	for n := range 4001 {
		value := someBytes(n)
		b, err := Write(Param{Kind: n, Value: value})
		if err != nil || !bytes.Equal(b, slowWrite(Param{Kind: n, Value: value})) {
			t.Fatalf("%d bytes: %v", n, err)
		}
		list, err := Params(b)
		if err != nil || !sameParams(list, []Param{{Kind: n, Value: value}}) {
			t.Fatalf("%d bytes, read: %v", n, err)
		}
	}
}

func TestWriteOfAllKinds(t *testing.T) {
	for kind := range 65536 {
		b, err := Write(Param{Kind: kind})
		if err != nil || !bytes.Equal(b, []byte{byte(kind >> 8), byte(kind), 0, 4}) {
			t.Fatalf("%d: %x, %v", kind, b, err)
		}
		if list, err := Params(b); err != nil || len(list) != 1 || list[0].Kind != kind || len(list[0].Value) != 0 {
			t.Fatalf("%d: %v, %v", kind, list, err)
		}
	}
}

func TestWriteOfWrongParameters(t *testing.T) {
	right := []Param{{Kind: 0}, {Kind: 65535, Value: someBytes(4000)}, {Kind: 5, Value: []byte("ab")}}
	for k, wrong := range []Param{
		{Kind: -1},
		{Kind: 65536},
		{Kind: 65536 + 5, Value: []byte("ab")},
		{Kind: -65536},
		{Kind: math.MinInt64},
		{Kind: math.MaxInt64},
		{Kind: 1 << 32},
		{Kind: 5, Value: make([]byte, 4001)},
		{Kind: 5, Value: make([]byte, 4004)},
		{Kind: 5, Value: make([]byte, 65531)},
		{Kind: 5, Value: make([]byte, 65532)},
		{Kind: 5, Value: make([]byte, 65536)},
		{Kind: 5, Value: make([]byte, 65538)},
		{Kind: -1, Value: make([]byte, 4001)},
	} {
		if b, err := Write(wrong); err != api.ErrForm || b != nil {
			t.Errorf("%d: %d bytes, %v", k, len(b), err)
		}
		for place := range len(right) + 1 {
			if b, err := Write(slices.Insert(slices.Clone(right), place, wrong)...); err != api.ErrForm || b != nil {
				t.Errorf("%d, at place %d among right ones: %d bytes, %v", k, place, len(b), err)
			}
		}
	}
	if _, err := Write(right...); err != nil {
		t.Error(err)
	}
}

func TestParamsOfNoBytes(t *testing.T) {
	for k, b := range [][]byte{nil, {}, someBytes(4)[:0]} {
		if list, err := Params(b); err != nil || len(list) != 0 {
			t.Errorf("%d: %v, %v", k, list, err)
		}
	}
}

// A beginning of right bytes is right just where a parameter ends.
func TestParamsOfBeginnings(t *testing.T) {
	list := []Param{{Kind: 5, Value: []byte("ab")}, {Kind: 6}, {Kind: 7, Value: []byte{0, 0, 0, 0, 0}}, {Kind: 8, Value: []byte{1, 2, 3, 4}}, {Kind: 9, Value: []byte{1, 2, 3}}}
	whole := mustWrite(t, list...)
	ends := map[int]int{}
	for k := range len(list) + 1 {
		ends[len(slowWrite(list[:k]...))] = k + 1
	}
	for n := range len(whole) + 1 {
		got, err := Params(whole[:n])
		switch k := ends[n]; {
		case k > 0 && (err != nil || !sameParams(got, list[:k-1])):
			t.Errorf("%d bytes: %v, %v", n, got, err)
		case k == 0 && (err != api.ErrForm || got != nil):
			t.Errorf("%d bytes: %v, %v", n, got, err)
		}
	}
	if len(ends) != 6 {
		t.Error(ends)
	}
}

func TestParamsOfWrongBytes(t *testing.T) {
	long := func(size int) []byte { // a parameter of so many bytes, whatever its length tells
		b := make([]byte, (size+3)/4*4)
		b[2], b[3] = byte(size>>8), byte(size)
		return b
	}
	wrong := [][]byte{
		{0}, {0, 0}, {0, 0, 0}, {0, 0, 4}, {4, 0, 0},
		{0, 5, 0, 0}, {0, 5, 0, 1}, {0, 5, 0, 2}, {0, 5, 0, 3},
		{0, 5, 0, 0, 0, 0, 0, 0}, {0, 5, 0, 3, 0, 0, 0, 0},
		{0, 5, 0, 5}, {0, 5, 0, 6, 'a'}, {0, 5, 0, 6, 'a', 'b'}, {0, 5, 0, 6, 'a', 'b', 0},
		{0, 5, 0, 9, 1, 2, 3, 4}, {0, 5, 1, 4, 1, 2, 3, 4}, {0, 5, 255, 255, 1, 2, 3, 4},
		{0, 5, 0, 5, 'a', 0, 0, 1}, {0, 5, 0, 5, 'a', 0, 1, 0}, {0, 5, 0, 5, 'a', 1, 0, 0},
		{0, 5, 0, 6, 'a', 'b', 0, 1}, {0, 5, 0, 6, 'a', 'b', 1, 0}, {0, 5, 0, 7, 'a', 'b', 'c', 255},
		{0, 5, 0, 6, 'a', 'b', 0, 0, 0}, {0, 5, 0, 6, 'a', 'b', 0, 0, 0, 0}, {0, 5, 0, 6, 'a', 'b', 0, 0, 0, 0, 0, 0},
		{0, 5, 0, 4, 0}, {0, 5, 0, 4, 0, 0, 0}, {0, 5, 0, 4, 0, 0, 0, 0},
		{5, 0, 6, 0, 'a', 'b', 0, 0},
		long(4005), long(4006), long(4007), long(4008), long(4009), long(8192), long(65532), long(65535),
	}
	right := []byte{0, 5, 0, 6, 'a', 'b', 0, 0}
	for k, b := range wrong {
		if list, err := Params(b); err != api.ErrForm || list != nil {
			t.Errorf("%d: %d parameters, %v", k, len(list), err)
		}
		if list, err := Params(slices.Concat(right, right, b)); err != api.ErrForm || list != nil {
			t.Errorf("%d, behind right ones: %d parameters, %v", k, len(list), err)
		}
	}
	for _, size := range []int{4, 5, 4000, 4001, 4002, 4003, 4004} {
		if list, err := Params(long(size)); err != nil || len(list) != 1 || len(list[0].Value) != size-4 {
			t.Errorf("a parameter of %d bytes: %d, %v", size, len(list), err)
		}
	}
}

// Bytes in which few lengths and noughts are wrong are right often enough.
func TestParamsOfAnyBytes(t *testing.T) {
	r := rand.New(rand.NewSource(3))
	rights := 0
	for range 20000 {
		b := randomBytes(r, r.Intn(7)*4)
		for k := range b {
			switch {
			case k%4 == 2 || r.Intn(3) == 0:
				b[k] = 0
			case k%4 == 3:
				b[k] = byte(r.Intn(12))
			}
		}
		if r.Intn(10) == 0 {
			b = b[:r.Intn(len(b)+1)]
		}
		got, err := Params(b)
		want, right := slowParams(b)
		if (err == nil) != right || !sameParams(got, want) || !right && err != api.ErrForm {
			t.Fatalf("%x: %v, %v, not %v", b, got, err, want)
		}
		if right && len(b) > 0 {
			rights++
			if again, err := Write(got...); err != nil || !bytes.Equal(again, b) {
				t.Fatalf("%x, written again: %x, %v", b, again, err)
			}
		}
	}
	if rights < 500 {
		t.Errorf("only %d of the texts were right", rights)
	}
}

func TestAction(t *testing.T) {
	for k, c := range []struct {
		kind         int
		pass, report bool
	}{
		{0, false, false}, {1, false, false}, {16383, false, false},
		{16384, false, true}, {16385, false, true}, {32767, false, true},
		{32768, true, false}, {32769, true, false}, {49151, true, false},
		{49152, true, true}, {49153, true, true}, {65535, true, true},
		{-1, false, false}, {65536, false, false}, {65536 + 16384, false, false}, {65536 + 49152, false, false}, {-16384, false, false}, {-49152, false, false},
		{math.MinInt64, false, false}, {math.MaxInt64, false, false}, {1 << 32, false, false}, {1<<32 + 49152, false, false},
	} {
		if pass, report := Action(c.kind); pass != c.pass || report != c.report {
			t.Errorf("%d, kind %d: %v, %v", k, c.kind, pass, report)
		}
	}
	for kind := range 65536 {
		if pass, report := Action(kind); pass != (kind/16384 >= 2) || report != (kind/16384%2 == 1) {
			t.Fatalf("kind %d: %v, %v", kind, pass, report)
		}
	}
}

// P6.2: what was written is read; what is read, written again, has the same bytes.

func TestNumbersThereAndBack(t *testing.T) {
	for _, size := range sizes {
		var o Out
		for _, n := range edgesOf(size) {
			o.Num(n, size)
		}
		i := Read(o.Bytes())
		for _, n := range edgesOf(size) {
			if got, want := i.Num(size), n&(math.MaxUint64>>(64-8*size)); got != want {
				t.Errorf("%x of size %d: %x, not %x", n, size, got, want)
			}
		}
		if i.End() != nil {
			t.Error(i.End())
		}
	}
}

func TestAllThereAndBack(t *testing.T) {
	r := rand.New(rand.NewSource(4))
	for range 500 {
		var o Out
		var asked []func(*In, *Out) bool
		for range r.Intn(20) {
			switch r.Intn(3) {
			case 0:
				n, size := r.Uint64(), sizes[r.Intn(4)]
				o.Num(n, size)
				asked = append(asked, func(i *In, again *Out) bool {
					got := i.Num(size)
					again.Num(got, size)
					return got == n&(math.MaxUint64>>(64-8*size))
				})
			case 1:
				b := randomBytes(r, r.Intn(12))
				o.Put(b)
				asked = append(asked, func(i *In, again *Out) bool {
					got := i.Take(len(b))
					again.Put(got)
					return bytes.Equal(got, b)
				})
			case 2:
				o.Pad()
				asked = append(asked, func(i *In, again *Out) bool {
					i.Pad()
					again.Pad()
					return true
				})
			}
		}
		i, again := Read(o.Bytes()), &Out{}
		for k, ask := range asked {
			if !ask(i, again) {
				t.Fatalf("%x, step %d: another thing was read", o.Bytes(), k)
			}
		}
		if i.End() != nil || !bytes.Equal(again.Bytes(), o.Bytes()) {
			t.Fatalf("%x, written again: %x, %v", o.Bytes(), again.Bytes(), i.End())
		}
	}
}

func TestParametersThereAndBack(t *testing.T) {
	r := rand.New(rand.NewSource(5))
	for range 500 {
		var list []Param
		for range r.Intn(8) {
			n := []int{0, 1, 2, 3, 4, 5, r.Intn(300), 3999, 4000}[r.Intn(9)]
			list = append(list, Param{Kind: r.Intn(65536), Value: randomBytes(r, n)})
		}
		b := mustWrite(t, list...)
		got, err := Params(b)
		if err != nil || !sameParams(got, list) {
			t.Fatalf("%d parameters: %d, %v", len(list), len(got), err)
		}
		if again := mustWrite(t, got...); !bytes.Equal(again, b) {
			t.Fatalf("%d parameters, written again: other bytes", len(list))
		}
	}
}

// Values that look like padding or like parameters themselves are still values.
func TestOddValuesThereAndBack(t *testing.T) {
	inner := mustWrite(t, Param{Kind: 5, Value: []byte("ab")}, Param{Kind: 6})
	list := []Param{{Kind: 1, Value: inner}, {Kind: 2, Value: make([]byte, 6)}, {Kind: 3, Value: inner[:5]}, {Kind: 0}, {Kind: 0}}
	b := mustWrite(t, list...)
	if got, err := Params(b); err != nil || !sameParams(got, list) {
		t.Errorf("%v, %v", got, err)
	}
	first := len(slowWrite(list[0]))
	one, err := Params(b[:first])
	if err != nil || len(one) != 1 {
		t.Fatal(one, err)
	}
	if got, err := Params(one[0].Value); err != nil || len(got) != 2 || string(got[0].Value) != "ab" {
		t.Errorf("parameters in a parameter: %v, %v", got, err)
	}
}

// Parameters are what an Out's calls put and an In's calls read.
func TestParametersByNumbers(t *testing.T) {
	var o Out
	o.Num(0xc004, 2)
	o.Num(9, 2)
	o.Put([]byte("abcde"))
	o.Pad()
	b := mustWrite(t, Param{Kind: 0xc004, Value: []byte("abcde")})
	if !bytes.Equal(o.Bytes(), b) {
		t.Errorf("%x, not %x", o.Bytes(), b)
	}
	i := Read(b)
	if i.Num(2) != 0xc004 || i.Num(2) != 9 || string(i.Take(5)) != "abcde" {
		t.Error("other things are read")
	}
	if i.Pad(); i.End() != nil {
		t.Error(i.End())
	}
}

// P6.3: what is handed in is neither changed nor kept.

func TestWhatIsHandedInIsNotChanged(t *testing.T) {
	for n := range 13 {
		// Each list has something in the room behind it.
		room := someBytes(40)
		b := room[:n]
		var o Out
		o.Put(b)
		o.Pad()
		o.Num(1, 8)
		o.Put(b)
		clear(o.Bytes())
		i := Read(b)
		i.Take(n / 2)
		i.Pad()
		i.Num(1)
		i.Take(100)
		_, _ = Params(b)
		values := []Param{{Kind: 5, Value: b}, {Kind: 6, Value: room[n:20]}, {Kind: -1, Value: room[20:]}}
		_, _ = Write(values[:2]...)
		_, _ = Write(values...)
		if !bytes.Equal(room, someBytes(40)) {
			t.Fatalf("%d bytes: what was handed in is changed", n)
		}
		if values[0].Kind != 5 || values[1].Kind != 6 || values[2].Kind != -1 || len(values[0].Value) != n || len(values[1].Value) != 20-n || len(values[2].Value) != 20 {
			t.Fatalf("%d bytes: the list of parameters is changed", n)
		}
	}
	room := append(mustWrite(t, Param{Kind: 5, Value: []byte("ab")}, Param{Kind: 6, Value: []byte("c")}), someBytes(8)...)
	kept := slices.Clone(room)
	list, err := Params(room[:16])
	if err != nil || len(list) != 2 {
		t.Fatal(list, err)
	}
	for _, p := range list {
		_ = append(p.Value, 0xee, 0xee, 0xee)
		clear(p.Value)
	}
	if !bytes.Equal(room, kept) {
		t.Error("changing a value changed the bytes it was read of")
	}
}

func TestWhatIsHandedInMayChange(t *testing.T) {
	for n := range 13 {
		b := someBytes(n)
		var o Out
		o.Put(b)
		i := Read(b)
		var taken []byte
		if n > 2 {
			taken = i.Take(2)
		}
		written := mustWrite(t, Param{Kind: 5, Value: b})
		clear(b)
		if !bytes.Equal(o.Bytes(), someBytes(n)) || !bytes.Equal(written, slowWrite(Param{Kind: 5, Value: someBytes(n)})) {
			t.Errorf("%d bytes: changing what was put changed what was written", n)
		}
		if rest := i.Take(i.Left()); !bytes.Equal(append(taken, rest...), someBytes(n)) {
			t.Errorf("%d bytes: changing what is read changed what was read", n)
		}
	}
	values := []Param{{Kind: 5, Value: []byte("ab")}, {Kind: 6, Value: []byte("c")}}
	b := mustWrite(t, values...)
	want := slices.Clone(b)
	list, err := Params(b)
	clear(values)
	if !bytes.Equal(b, want) {
		t.Error("changing the list changed the bytes")
	}
	clear(b)
	if err != nil || !sameParams(list, []Param{{Kind: 5, Value: []byte("ab")}, {Kind: 6, Value: []byte("c")}}) {
		t.Errorf("changing the bytes changed the list: %v, %v", list, err)
	}
}

// P6.3: answers are new memory.

// spoil writes all over an answer, and into the room behind it.
func spoil(b []byte) {
	b = b[:cap(b)]
	for k := range b {
		b[k] = 0xee
	}
}

func TestBytesAreApart(t *testing.T) {
	for n := range 40 {
		var o Out
		o.Put(someBytes(n))
		first, second := o.Bytes(), o.Bytes()
		spoil(first)
		if !bytes.Equal(second, someBytes(n)) || !bytes.Equal(o.Bytes(), someBytes(n)) {
			t.Fatalf("%d bytes: changing Bytes changed another answer", n)
		}
		o.Num(7, 1)
		spoil(second)
		third := o.Bytes()
		o.Put(someBytes(3))
		if !bytes.Equal(third, append(someBytes(n), 7)) || !bytes.Equal(o.Bytes(), append(append(someBytes(n), 7), 1, 2, 3)) {
			t.Fatalf("%d bytes: what is put behind Bytes, or Bytes changed, changed the other one", n)
		}
	}
}

func TestTakenBytesAreApart(t *testing.T) {
	b := someBytes(16)
	i := Read(b)
	first := i.Take(4)
	spoil(first)
	second := i.Take(4)
	if !bytes.Equal(second, someBytes(16)[4:8]) {
		t.Errorf("%x", second)
	}
	_ = append(second, 0xee, 0xee)
	spoil(second)
	spoil(i.Take(0))
	if i.Num(4) != 0x090a0b0c || !bytes.Equal(i.Take(4), someBytes(16)[12:]) || i.End() != nil {
		t.Error("changing what was taken changed the reader")
	}
	if !bytes.Equal(b, someBytes(16)) {
		t.Error("changing what was taken changed what was handed in")
	}
	one, other := Read(b), Read(b)
	spoil(one.Take(16))
	if !bytes.Equal(other.Take(16), b) || !bytes.Equal(b, someBytes(16)) {
		t.Error("two readers of the same bytes aren't apart")
	}
}

func TestWrittenBytesAreApart(t *testing.T) {
	value := []byte("abc")
	p := Param{Kind: 5, Value: value}
	first, second := mustWrite(t, p, p), mustWrite(t, p, p)
	spoil(first)
	if !bytes.Equal(second, slowWrite(p, p)) || string(value) != "abc" || !bytes.Equal(mustWrite(t, p, p), second) {
		t.Error("changing what was written changed something else")
	}
}

func TestReadParametersAreApart(t *testing.T) {
	values := []Param{{Kind: 5, Value: []byte("ab")}, {Kind: 6, Value: []byte("cdef")}, {Kind: 7}, {Kind: 8, Value: []byte("g")}}
	b := mustWrite(t, values...)
	kept := slices.Clone(b)
	for k := range values {
		list, err := Params(b)
		other, otherErr := Params(b)
		if err != nil || otherErr != nil || len(list) != len(values) {
			t.Fatal(list, err, otherErr)
		}
		spoil(list[k].Value)
		for j := range values {
			if j != k && !bytes.Equal(list[j].Value, values[j].Value) {
				t.Errorf("changing value %d changed value %d", k, j)
			}
		}
		clear(list)
		if !sameParams(other, values) || !bytes.Equal(b, kept) {
			t.Errorf("changing value %d changed another answer, or what was handed in", k)
		}
	}
}

func TestReadersAndOutsAreApart(t *testing.T) {
	b := someBytes(12)
	one, other := Read(b), Read(b)
	one.Num(3)
	isWrong(t, "one of two readers", one)
	if other.Left() != 12 || other.Num(4) != 0x01020304 || !bytes.Equal(other.Take(8), b[4:]) || other.End() != nil {
		t.Error("one reader that is wrong changed another one")
	}
	var o, p Out
	o.Put(b)
	p.Put(b)
	o.Num(1, 4)
	p.Num(2, 4)
	if !bytes.Equal(o.Bytes(), append(someBytes(12), 0, 0, 0, 1)) || !bytes.Equal(p.Bytes(), append(someBytes(12), 0, 0, 0, 2)) {
		t.Error("two Outs of the same bytes aren't apart")
	}
}

func TestSeveralAtOnce(t *testing.T) {
	values := []Param{{Kind: 5, Value: []byte("ab")}, {Kind: 6, Value: []byte("c")}}
	b := mustWrite(t, values...)
	done := make(chan bool)
	for range 8 {
		go func() {
			right := true
			for range 100 {
				list, err := Params(b)
				again, err2 := Write(values...)
				right = right && err == nil && err2 == nil && sameParams(list, values) && bytes.Equal(again, b)
			}
			done <- right
		}()
	}
	for range 8 {
		if !<-done {
			t.Error("calls at the same time disturb each other")
		}
	}
}
