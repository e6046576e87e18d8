package chunk

import (
	"bytes"
	"encoding/binary"
	"math"
	"math/rand"
	"slices"
	"strconv"
	"testing"

	"weftline/api"
)

// kinds is all kinds of the chapter's table.
var kinds = []int{0, 1, 2, 3, 4, 5, 6, 7, 8, 9, 10, 11, 14, 15, 128, 193}

// noKinds is some of which there are no chunks.
var noKinds = []int{-1, 12, 13, 16, 17, 64, 127, 129, 192, 194, 255, 256, 257, 256 + 193, -193, math.MinInt64, math.MaxInt64, 1 << 32, 1<<32 + 3}

// someBytes is n bytes of which none is nought.
func someBytes(n int) []byte {
	b := make([]byte, n)
	for k := range b {
		b[k] = byte(k%255 + 1)
	}
	return b
}

// goodOf is a good chunk of a kind, in which all that the kind uses is set.
func goodOf(kind int) Chunk {
	c := Chunk{Kind: kind}
	switch kind {
	case Data:
		c.Piece = api.Piece{TSN: 1, Stream: 2, Seq: 3, Begin: true, Unordered: true, Text: []byte("abcde")}
	case Init, InitAck:
		c.Tag, c.Window, c.Out, c.In, c.TSN = 5, 2000, 2, 3, 9
		c.Random, c.Addrs = []byte{1}, []api.Addr{7, 8}
		if kind == InitAck {
			c.Info = []byte{6, 6}
		}
	case Sack:
		c.TSN, c.Window = 4, 5
		c.Gaps, c.Dups = []Gap{{2, 3}, {5, 5}}, []uint32{8, 7, 7}
	case Heartbeat, HeartbeatAck:
		c.Info = []byte{1, 2, 3, 4, 5}
	case Abort, Error:
		c.Cause = 258
	case Shutdown:
		c.TSN = 0x01020304
	case CookieEcho:
		c.Info = []byte{1, 2, 3}
	case Auth:
		c.Info = someBytes(32)
	case Asconf:
		c.Serial = 6
		c.Ops = []Op{{Add, 9}, {Delete, 1}, {Primary, 9}}
	case AsconfAck:
		c.Serial, c.OK = 6, true
	}
	return c
}

// changed is a good chunk of a kind behind a change.
func changed(kind int, change func(*Chunk)) Chunk {
	c := goodOf(kind)
	change(&c)
	return c
}

// wantBytes is the bytes of goodOf's chunks, written out by the chapter's words.
func wantBytes(kind int) []byte {
	switch kind {
	case Data:
		return []byte{0, 6, 0, 17, 0, 0, 0, 1, 0, 2, 0, 3, 'a', 'b', 'c', 'd', 'e', 0, 0, 0}
	case Init:
		return []byte{1, 0, 0, 44, 0, 0, 0, 5, 0, 0, 7, 208, 0, 2, 0, 3, 0, 0, 0, 9,
			128, 2, 0, 5, 1, 0, 0, 0, 0, 5, 0, 8, 0, 0, 0, 7, 0, 5, 0, 8, 0, 0, 0, 8}
	case InitAck:
		return []byte{2, 0, 0, 52, 0, 0, 0, 5, 0, 0, 7, 208, 0, 2, 0, 3, 0, 0, 0, 9,
			128, 2, 0, 5, 1, 0, 0, 0, 0, 5, 0, 8, 0, 0, 0, 7, 0, 5, 0, 8, 0, 0, 0, 8, 0, 7, 0, 6, 6, 6, 0, 0}
	case Sack:
		return []byte{3, 0, 0, 36, 0, 0, 0, 4, 0, 0, 0, 5, 0, 2, 0, 3, 0, 2, 0, 3, 0, 5, 0, 5,
			0, 0, 0, 8, 0, 0, 0, 7, 0, 0, 0, 7}
	case Heartbeat:
		return []byte{4, 0, 0, 16, 0, 1, 0, 9, 1, 2, 3, 4, 5, 0, 0, 0}
	case HeartbeatAck:
		return []byte{5, 0, 0, 16, 0, 1, 0, 9, 1, 2, 3, 4, 5, 0, 0, 0}
	case Abort:
		return []byte{6, 0, 0, 8, 1, 2, 0, 4}
	case Shutdown:
		return []byte{7, 0, 0, 8, 1, 2, 3, 4}
	case ShutdownAck:
		return []byte{8, 0, 0, 4}
	case Error:
		return []byte{9, 0, 0, 8, 1, 2, 0, 4}
	case CookieEcho:
		return []byte{10, 0, 0, 7, 1, 2, 3, 0}
	case CookieAck:
		return []byte{0x0b, 0, 0, 4}
	case ShutdownComplete:
		return []byte{14, 0, 0, 4}
	case Auth:
		return append([]byte{15, 0, 0, 36}, someBytes(32)...)
	case AsconfAck:
		return []byte{128, 0, 0, 12, 0, 0, 0, 6, 0, 0, 0, 1}
	}
	return []byte{193, 0, 0, 32, 0, 0, 0, 6,
		192, 1, 0, 8, 0, 0, 0, 9, 192, 2, 0, 8, 0, 0, 0, 1, 192, 4, 0, 8, 0, 0, 0, 9}
}

// thing is one of all that a chunk may have: which kinds use it, changes that
// set it, each to another value, none to nought, all within the bounds, and one
// that makes it nought.
type thing struct {
	name   string
	uses   []int
	sets   []func(*Chunk)
	nought func(*Chunk)
}

// newThing is a thing that is set to each of the values.
func newThing[T any](name string, uses []int, set func(*Chunk, T), values ...T) thing {
	var zero T
	x := thing{name: name, uses: uses, nought: func(c *Chunk) { set(c, zero) }}
	for _, v := range values {
		x.sets = append(x.sets, func(c *Chunk) { set(c, v) })
	}
	return x
}

// things is all things of a chunk but its kind.
func things() []thing {
	data, starts := []int{Data}, []int{Init, InitAck}
	return []thing{
		newThing("TSN of the piece", data, func(c *Chunk, n uint32) { c.Piece.TSN = n }, 1, 2, math.MaxUint32),
		newThing("Stream", data, func(c *Chunk, n uint16) { c.Piece.Stream = n }, 1, 8, 65535),
		newThing("Seq", data, func(c *Chunk, n uint16) { c.Piece.Seq = n }, 1, 256, 65535),
		newThing("Begin", data, func(c *Chunk, ok bool) { c.Piece.Begin = ok }, true),
		newThing("End", data, func(c *Chunk, ok bool) { c.Piece.End = ok }, true),
		newThing("Unordered", data, func(c *Chunk, ok bool) { c.Piece.Unordered = ok }, true),
		newThing("Text", data, func(c *Chunk, b []byte) { c.Piece.Text = b }, []byte{0}, []byte{1}, []byte{1, 0}, someBytes(64)),
		newThing("Tag", starts, func(c *Chunk, n uint32) { c.Tag = n }, 1, 2, math.MaxUint32),
		newThing("Window", []int{Init, InitAck, Sack}, func(c *Chunk, n int) { c.Window = n }, 1, 256, 1<<31-1),
		newThing("Out", starts, func(c *Chunk, n int) { c.Out = n }, 1, 4, 8),
		newThing("In", starts, func(c *Chunk, n int) { c.In = n }, 1, 4, 8),
		newThing("TSN", []int{Init, InitAck, Sack, Shutdown}, func(c *Chunk, n uint32) { c.TSN = n }, 1, 2, math.MaxUint32),
		newThing("Random", starts, func(c *Chunk, b []byte) { c.Random = b }, []byte{0}, []byte{9}, []byte{9, 0}, someBytes(64)),
		newThing("Addrs", starts, func(c *Chunk, l []api.Addr) { c.Addrs = l }, []api.Addr{1}, []api.Addr{1, 2}, []api.Addr{2, 1}, []api.Addr{1, 1, 1<<31 - 1}),
		newThing("Info", []int{InitAck, Heartbeat, HeartbeatAck, CookieEcho, Auth}, func(c *Chunk, b []byte) { c.Info = b }, make([]byte, 32), bytes.Repeat([]byte{7}, 32), append(make([]byte, 31), 1)),
		newThing("Gaps", []int{Sack}, func(c *Chunk, l []Gap) { c.Gaps = l }, []Gap{{1, 1}}, []Gap{{1, 2}}, []Gap{{2, 2}}, []Gap{{1, 1}, {3, 65535}}),
		newThing("Dups", []int{Sack}, func(c *Chunk, l []uint32) { c.Dups = l }, []uint32{0}, []uint32{1}, []uint32{1, 0}, []uint32{0, 1}),
		newThing("Cause", []int{Abort, Error}, func(c *Chunk, n int) { c.Cause = n }, 1, 256, 65535),
		newThing("Serial", []int{Asconf, AsconfAck}, func(c *Chunk, n uint32) { c.Serial = n }, 1, 2, math.MaxUint32),
		newThing("Ops", []int{Asconf}, func(c *Chunk, l []Op) { c.Ops = l }, []Op{{Add, 1}}, []Op{{Delete, 1}}, []Op{{Add, 2}}, []Op{{Add, 1}, {Primary, 1}}, []Op{{Primary, 1}, {Add, 1}}),
		newThing("OK", []int{AsconfAck}, func(c *Chunk, ok bool) { c.OK = ok }, true),
	}
}

// full is a chunk of which everything is set, in memory of its own.
func full() Chunk {
	c := Chunk{Kind: 12}
	for _, t := range things() {
		t.sets[len(t.sets)-1](&c)
	}
	return c
}

// isGood tells of a chunk that isn't taken for good, or whose bytes aren't read to it.
func isGood(t *testing.T, what string, c Chunk) {
	t.Helper()
	b, err := Bytes(c)
	if !Good(c) || err != nil || len(b) < 4 {
		t.Errorf("%s: not good: %x, %v", what, b, err)
		return
	}
	if want := slowBytes(c); !bytes.Equal(b, want) {
		t.Errorf("%s: %x, not %x", what, b, want)
	}
	if got, err := Read(b); err != nil || !Same(got, c) {
		t.Errorf("%s, read: %v, %v", what, got, err)
	}
}

// isNotGood tells of a chunk that is taken for good.
func isNotGood(t *testing.T, what string, c Chunk) {
	t.Helper()
	if b, err := Bytes(c); Good(c) || err != api.ErrForm || b != nil {
		t.Errorf("%s: good: %x, %v", what, b, err)
	}
}

// isRefused tells of bytes that are read.
func isRefused(t *testing.T, what string, b []byte) {
	t.Helper()
	if c, err := Read(b); err != api.ErrForm || !isZero(c) {
		t.Errorf("%s: %x: %v, %v", what, b, c, err)
	}
}

// isZero tells whether a chunk is the zero value.
func isZero(c Chunk) bool {
	return Same(c, Chunk{}) && c.Piece.Text == nil && c.Random == nil && c.Addrs == nil && c.Info == nil && c.Gaps == nil && c.Dups == nil && c.Ops == nil
}

// slowNum puts a number's bytes, by the library.
func slowNum(b []byte, n, size int) []byte {
	return append(b, binary.BigEndian.AppendUint64(nil, uint64(n))[8-size:]...)
}

// slowPad puts noughts behind, one by one.
func slowPad(b []byte) []byte {
	for len(b)%4 != 0 {
		b = append(b, 0)
	}
	return b
}

// slowParam puts a parameter.
func slowParam(b []byte, kind int, value []byte) []byte {
	return slowPad(append(slowNum(slowNum(b, kind, 2), len(value)+4, 2), value...))
}

// slowBytes is a good chunk's bytes by the chapter's own words.
func slowBytes(c Chunk) []byte {
	var v []byte
	flags := 0
	switch c.Kind {
	case 0:
		v = slowNum(slowNum(slowNum(v, int(c.Piece.TSN), 4), int(c.Piece.Stream), 2), int(c.Piece.Seq), 2)
		v = append(v, c.Piece.Text...)
		for k, set := range []bool{c.Piece.End, c.Piece.Begin, c.Piece.Unordered} {
			if set {
				flags |= 1 << k
			}
		}
	case 1, 2:
		v = slowNum(slowNum(v, int(c.Tag), 4), c.Window, 4)
		v = slowNum(slowNum(slowNum(v, c.Out, 2), c.In, 2), int(c.TSN), 4)
		v = slowParam(v, 0x8002, c.Random)
		for _, a := range c.Addrs {
			v = slowParam(v, 5, slowNum(nil, int(a), 4))
		}
		if c.Kind == 2 {
			v = slowParam(v, 7, c.Info)
		}
	case 3:
		v = slowNum(slowNum(v, int(c.TSN), 4), c.Window, 4)
		v = slowNum(slowNum(v, len(c.Gaps), 2), len(c.Dups), 2)
		for _, g := range c.Gaps {
			v = slowNum(slowNum(v, g.From, 2), g.To, 2)
		}
		for _, d := range c.Dups {
			v = slowNum(v, int(d), 4)
		}
	case 4, 5:
		v = slowParam(v, 1, c.Info)
	case 6, 9:
		v = slowNum(slowNum(v, c.Cause, 2), 4, 2)
	case 7:
		v = slowNum(v, int(c.TSN), 4)
	case 10, 15:
		v = c.Info
	case 193:
		v = slowNum(v, int(c.Serial), 4)
		for _, o := range c.Ops {
			v = slowParam(v, []int{1: 0xc001, 2: 0xc002, 4: 0xc004}[o.Kind], slowNum(nil, int(o.Addr), 4))
		}
	case 128:
		ok := 0
		if c.OK {
			ok = 1
		}
		v = slowNum(slowNum(v, int(c.Serial), 4), ok, 4)
	}
	return slowPad(append(slowNum([]byte{byte(c.Kind), byte(flags)}, len(v)+4, 2), v...))
}

// slowIn is bytes that are read from the beginning on, by the chapter's own
// words; what they aren't, they are refused for on the spot, by a panic.
type slowIn struct {
	b []byte
}

func (s *slowIn) take(n int) []byte {
	must(n >= 0 && n <= len(s.b))
	b := s.b[:n]
	s.b = s.b[n:]
	return b
}

func (s *slowIn) num(size, least, most int) int {
	n := 0
	for _, x := range s.take(size) {
		n = n*256 + int(x)
	}
	must(n >= least && n <= most)
	return n
}

func (s *slowIn) param(kind, least, most int) []byte {
	s.num(2, kind, kind)
	size := s.num(2, least+4, most+4) - 4
	b := s.take(size)
	for size%4 != 0 {
		s.num(1, 0, 0)
		size++
	}
	return b
}

func (s *slowIn) next() int {
	if len(s.b) < 2 {
		return -1
	}
	return int(s.b[0])*256 + int(s.b[1])
}

func (s *slowIn) addr(kind int) api.Addr {
	value := slowIn{s.param(kind, 4, 4)}
	return api.Addr(value.num(4, 1, 1<<31-1))
}

func must(ok bool) {
	if !ok {
		panic("refused")
	}
}

// slowRead is the chunk of bytes by the chapter's own words, and whether they are just a good one's.
func slowRead(b []byte) (c Chunk, ok bool) {
	defer func() {
		if recover() != nil {
			c, ok = Chunk{}, false
		}
	}()
	all := &slowIn{b}
	c.Kind = all.num(1, 0, 255)
	must(slices.Contains(kinds, c.Kind))
	flags := all.num(1, 0, 7)
	must(flags == 0 || c.Kind == 0)
	size := all.num(2, 4, 65535) - 4
	s := &slowIn{all.take(size)}
	for size%4 != 0 {
		all.num(1, 0, 0)
		size++
	}
	must(len(all.b) == 0)
	slowValue(&c, s, flags)
	must(len(s.b) == 0)
	return c, true
}

func slowValue(c *Chunk, s *slowIn, flags int) {
	const most32, most31, most16 = 1<<32 - 1, 1<<31 - 1, 1<<16 - 1
	switch c.Kind {
	case 0:
		c.Piece = api.Piece{End: flags%2 == 1, Begin: flags/2%2 == 1, Unordered: flags/4 == 1}
		c.Piece.TSN = uint32(s.num(4, 0, most32))
		c.Piece.Stream = uint16(s.num(2, 0, most16))
		c.Piece.Seq = uint16(s.num(2, 0, most16))
		must(len(s.b) >= 1 && len(s.b) <= 64)
		c.Piece.Text = s.take(len(s.b))
	case 1, 2:
		c.Tag = uint32(s.num(4, 1, most32))
		c.Window = s.num(4, 0, most31)
		c.Out = s.num(2, 1, 8)
		c.In = s.num(2, 1, 8)
		c.TSN = uint32(s.num(4, 0, most32))
		c.Random = s.param(0x8002, 1, 64)
		for c.Addrs == nil || s.next() == 5 {
			c.Addrs = append(c.Addrs, s.addr(5))
		}
		must(len(c.Addrs) <= 4)
		if c.Kind == 2 {
			c.Info = s.param(7, 1, 300)
		}
	case 3:
		c.TSN = uint32(s.num(4, 0, most32))
		c.Window = s.num(4, 0, most31)
		gaps := s.num(2, 0, 16)
		dups := s.num(2, 0, 16)
		least := 1
		for range gaps {
			from := s.num(2, least, most16)
			to := s.num(2, from, most16)
			c.Gaps = append(c.Gaps, Gap{from, to})
			least = to + 2
		}
		for range dups {
			c.Dups = append(c.Dups, uint32(s.num(4, 0, most32)))
		}
	case 4, 5:
		c.Info = s.param(1, 1, 300)
	case 6, 9:
		c.Cause = s.num(2, 0, most16)
		s.num(2, 4, 4)
	case 7:
		c.TSN = uint32(s.num(4, 0, most32))
	case 10:
		must(len(s.b) >= 1 && len(s.b) <= 300)
		c.Info = s.take(len(s.b))
	case 15:
		c.Info = s.take(32)
	case 193:
		c.Serial = uint32(s.num(4, 0, most32))
		for c.Ops == nil || len(s.b) > 0 {
			kind := s.next() - 0xc000
			must(kind == 1 || kind == 2 || kind == 4)
			c.Ops = append(c.Ops, Op{kind, s.addr(0xc000 + kind)})
		}
		must(len(c.Ops) <= 9)
	case 128:
		c.Serial = uint32(s.num(4, 0, most32))
		c.OK = s.num(4, 0, 1) == 1
	}
}

// isReadAsTold tells of bytes that are read otherwise than by the chapter's
// own words, and answers whether they are a good chunk's.
func isReadAsTold(t *testing.T, what string, b []byte) bool {
	t.Helper()
	want, right := slowRead(b)
	got, err := Read(b)
	if right && (err != nil || !Same(got, want)) {
		t.Errorf("%s: %x: %v, %v, not %v", what, b, got, err, want)
	}
	if !right {
		isRefused(t, what, b)
	}
	return right
}

func randomBytes(r *rand.Rand, n int) []byte {
	b := make([]byte, n)
	r.Read(b)
	return b
}

func randomAddr(r *rand.Rand) api.Addr {
	return api.Addr(1 + []int64{0, 1, 1<<31 - 2, r.Int63n(1<<31 - 1)}[r.Intn(4)])
}

func randomGaps(r *rand.Rand) []Gap {
	var list []Gap
	ahead := -1
	for range r.Intn(17) {
		g := Gap{From: ahead + 2 + r.Intn(3)}
		g.To = g.From + r.Intn(3)*r.Intn(1000)
		list = append(list, g)
		ahead = g.To
	}
	return list
}

// randomGood is any good chunk of a kind.
func randomGood(r *rand.Rand, kind int) Chunk {
	c := Chunk{Kind: kind}
	switch kind {
	case Data:
		c.Piece = api.Piece{TSN: r.Uint32(), Stream: uint16(r.Uint32()), Seq: uint16(r.Uint32()), Text: randomBytes(r, 1+r.Intn(64))}
		c.Piece.Begin, c.Piece.End, c.Piece.Unordered = r.Intn(2) == 0, r.Intn(2) == 0, r.Intn(2) == 0
	case Init, InitAck:
		c.Tag, c.Window, c.Out, c.In, c.TSN = 1+r.Uint32()/2, int(r.Int31()), 1+r.Intn(8), 1+r.Intn(8), r.Uint32()
		c.Random = randomBytes(r, 1+r.Intn(64))
		for range 1 + r.Intn(4) {
			c.Addrs = append(c.Addrs, randomAddr(r))
		}
		if kind == InitAck {
			c.Info = randomBytes(r, 1+r.Intn(300))
		}
	case Sack:
		c.TSN, c.Window, c.Gaps = r.Uint32(), int(r.Int31()), randomGaps(r)
		for range r.Intn(17) {
			c.Dups = append(c.Dups, r.Uint32())
		}
	case Heartbeat, HeartbeatAck, CookieEcho:
		c.Info = randomBytes(r, 1+r.Intn(300))
	case Auth:
		c.Info = randomBytes(r, 32)
	case Abort, Error:
		c.Cause = r.Intn(65536)
	case Shutdown:
		c.TSN = r.Uint32()
	case Asconf:
		c.Serial = r.Uint32()
		for range 1 + r.Intn(9) {
			c.Ops = append(c.Ops, Op{[]int{1, 2, 4}[r.Intn(3)], randomAddr(r)})
		}
	case AsconfAck:
		c.Serial, c.OK = r.Uint32(), r.Intn(2) == 0
	}
	return c
}

// P7.1: Good and Bytes.

func TestTheChaptersExample(t *testing.T) {
	want := []byte{0x0b, 0, 0, 4}
	if b, err := Bytes(Chunk{Kind: CookieAck}); err != nil || !bytes.Equal(b, want) {
		t.Errorf("%x, %v", b, err)
	}
	if c, err := Read(want); err != nil || !Same(c, Chunk{Kind: 11}) {
		t.Errorf("%v, %v", c, err)
	}
}

func TestNumbersOfTheKinds(t *testing.T) {
	named := []int{Data, Init, InitAck, Sack, Heartbeat, HeartbeatAck, Abort, Shutdown, ShutdownAck, Error, CookieEcho, CookieAck, ShutdownComplete, Auth, AsconfAck, Asconf}
	if !slices.Equal(named, kinds) || Add != 1 || Delete != 2 || Primary != 4 {
		t.Error(named, Add, Delete, Primary)
	}
}

func TestEachKindThereAndBack(t *testing.T) {
	for _, kind := range kinds {
		c, want := goodOf(kind), wantBytes(kind)
		if b, err := Bytes(c); !Good(c) || err != nil || !bytes.Equal(b, want) {
			t.Errorf("kind %d: %v, %x, %v, not %x", kind, Good(c), b, err, want)
		}
		if got, err := Read(want); err != nil || !Same(got, c) || got.Kind != kind {
			t.Errorf("kind %d: %v, %v", kind, got, err)
		}
		isGood(t, "kind "+strconv.Itoa(kind), c)
	}
}

// bound is a chunk on one side of a bound.
type bound struct {
	what string
	c    Chunk
	good bool
}

// boundsOf is chunks of each kind with each number, within the bounds or not.
func boundsOf[T any](what string, kinds []int, set func(*Chunk, T), in, out []T) []bound {
	var list []bound
	for _, kind := range kinds {
		for k, n := range slices.Concat(in, out) {
			name := what + " of kind " + strconv.Itoa(kind) + ", the " + strconv.Itoa(k) + "th"
			list = append(list, bound{name, changed(kind, func(c *Chunk) { set(c, n) }), k < len(in)})
		}
	}
	return list
}

func checkBounds(t *testing.T, list []bound) {
	t.Helper()
	for _, x := range list {
		if x.good {
			isGood(t, x.what, x.c)
		} else {
			isNotGood(t, x.what, x.c)
		}
	}
}

func TestBoundsOfNumbers(t *testing.T) {
	starts := []int{Init, InitAck}
	farOff := []int{math.MinInt64, math.MaxInt64, 1<<32 + 1, 1<<32 + 2, -1<<32 + 1, 1<<16 + 1}
	checkBounds(t, boundsOf("Tag", starts, func(c *Chunk, n uint32) { c.Tag = n }, []uint32{1, 2, 1 << 31, math.MaxUint32}, []uint32{0}))
	checkBounds(t, boundsOf("Window", []int{Init, InitAck, Sack}, func(c *Chunk, n int) { c.Window = n },
		[]int{0, 1, 65536, 1<<31 - 2, 1<<31 - 1}, []int{-1, -2, 1 << 31, 1<<31 + 1, 1<<32 - 1, 1 << 32, 1<<32 + 5, math.MinInt64, math.MaxInt64}))
	checkBounds(t, boundsOf("Out", starts, func(c *Chunk, n int) { c.Out = n }, []int{1, 2, 3, 4, 5, 6, 7, 8}, append([]int{-1, 0, 9, 10}, farOff...)))
	checkBounds(t, boundsOf("In", starts, func(c *Chunk, n int) { c.In = n }, []int{1, 2, 3, 4, 5, 6, 7, 8}, append([]int{-1, 0, 9, 10}, farOff...)))
	checkBounds(t, boundsOf("Cause", []int{Abort, Error}, func(c *Chunk, n int) { c.Cause = n },
		[]int{0, 1, 255, 256, 65534, 65535}, append([]int{-1, -2, 65536, 65537}, farOff...)))
	// Other numbers have no bounds but their size.
	all32 := []uint32{0, 1, 1<<31 - 1, 1 << 31, math.MaxUint32}
	checkBounds(t, boundsOf("TSN", []int{Init, InitAck, Sack, Shutdown}, func(c *Chunk, n uint32) { c.TSN = n }, all32, nil))
	checkBounds(t, boundsOf("Serial", []int{Asconf, AsconfAck}, func(c *Chunk, n uint32) { c.Serial = n }, all32, nil))
	checkBounds(t, boundsOf("Dups", []int{Sack}, func(c *Chunk, n uint32) { c.Dups = []uint32{n} }, all32, nil))
	checkBounds(t, boundsOf("TSN of the piece", []int{Data}, func(c *Chunk, n uint32) { c.Piece.TSN = n }, all32, nil))
	checkBounds(t, boundsOf("Stream and Seq", []int{Data}, func(c *Chunk, n uint16) { c.Piece.Stream, c.Piece.Seq = n, ^n }, []uint16{0, 1, 7, 8, 65535}, nil))
	checkBounds(t, boundsOf("OK", []int{AsconfAck}, func(c *Chunk, ok bool) { c.OK = ok }, []bool{true, false}, nil))
}

func TestBoundsOfTexts(t *testing.T) {
	many := func(list ...int) [][]byte {
		var texts [][]byte
		for _, n := range list {
			texts = append(texts, someBytes(n), make([]byte, n))
		}
		return texts
	}
	none := [][]byte{nil, {}, someBytes(5)[:0]}
	setInfo := func(c *Chunk, b []byte) { c.Info = b }
	checkBounds(t, boundsOf("Text", []int{Data}, func(c *Chunk, b []byte) { c.Piece.Text = b },
		many(1, 2, 3, 4, 5, 63, 64), append(many(65, 66, 400, 65536+1), none...)))
	checkBounds(t, boundsOf("Random", []int{Init, InitAck}, func(c *Chunk, b []byte) { c.Random = b },
		many(1, 2, 3, 4, 5, 32, 63, 64), append(many(65, 66, 4001, 65536+1), none...)))
	checkBounds(t, boundsOf("Info", []int{InitAck, Heartbeat, HeartbeatAck, CookieEcho}, setInfo,
		many(1, 2, 3, 4, 5, 255, 256, 299, 300), append(many(301, 302, 4001, 65536+1), none...)))
	checkBounds(t, boundsOf("Info", []int{Auth}, setInfo, many(32), append(many(1, 30, 31, 33, 34, 64, 300, 65536+32), none...)))
}

func TestBoundsOfAddresses(t *testing.T) {
	in := []api.Addr{1, 2, 65536, 1<<31 - 2, 1<<31 - 1}
	out := []api.Addr{0, -1, 1 << 31, 1<<31 + 1, 1<<32 - 1, 1 << 32, 1<<32 + 1, math.MinInt64, math.MaxInt64}
	var goods, bads [][]api.Addr
	for _, a := range in {
		goods = append(goods, []api.Addr{a}, []api.Addr{5, a}, []api.Addr{a, 5, 5}, []api.Addr{5, 5, 5, a}, []api.Addr{a, a, a, a})
	}
	for _, a := range out {
		bads = append(bads, []api.Addr{a}, []api.Addr{5, a}, []api.Addr{a, 5, 5}, []api.Addr{5, 5, 5, a})
	}
	bads = append(bads, nil, []api.Addr{}, goods[4][:0], []api.Addr{1, 2, 3, 4, 5}, []api.Addr{1, 1, 1, 1, 1}, make([]api.Addr, 4), slices.Repeat([]api.Addr{1}, 260))
	checkBounds(t, boundsOf("Addrs", []int{Init, InitAck}, func(c *Chunk, l []api.Addr) { c.Addrs = l }, goods, bads))
}

func TestBoundsOfOps(t *testing.T) {
	var goods, bads [][]Op
	for _, kind := range []int{1, 2, 4} {
		for _, a := range []api.Addr{1, 2, 1<<31 - 1} {
			o := Op{kind, a}
			goods = append(goods, []Op{o}, []Op{{1, 1}, o}, []Op{o, {2, 3}, {4, 5}}, slices.Repeat([]Op{o}, 9), append(slices.Repeat([]Op{{4, 4}}, 8), o))
		}
		for _, a := range []api.Addr{0, -1, 1 << 31, 1 << 32, 1<<32 + 1, math.MinInt64, math.MaxInt64} {
			o := Op{kind, a}
			bads = append(bads, []Op{o}, []Op{{1, 1}, o}, []Op{o, {2, 3}, {4, 5}}, append(slices.Repeat([]Op{{4, 4}}, 8), o))
		}
		bads = append(bads, slices.Repeat([]Op{{kind, 1}}, 10), slices.Repeat([]Op{{kind, 1}}, 11))
	}
	for _, kind := range []int{0, 3, 5, 6, 7, 8, -1, -4, 0xc001, 65536 + 1, 1<<32 + 1, math.MinInt64, math.MaxInt64} {
		o := Op{kind, 1}
		bads = append(bads, []Op{o}, []Op{{1, 1}, o}, []Op{o, {2, 3}, {4, 5}}, append(slices.Repeat([]Op{{4, 4}}, 8), o))
	}
	bads = append(bads, nil, []Op{}, goods[4][:0])
	checkBounds(t, boundsOf("Ops", []int{Asconf}, func(c *Chunk, l []Op) { c.Ops = l }, goods, bads))
}

// manyGaps is n gaps of one number each, as near as may be.
func manyGaps(n int) []Gap {
	var list []Gap
	for k := range n {
		list = append(list, Gap{2*k + 1, 2*k + 1})
	}
	return list
}

func TestBoundsOfGaps(t *testing.T) {
	goods := [][]Gap{
		nil, {}, manyGaps(1), manyGaps(2), manyGaps(15), manyGaps(16),
		{{1, 1}}, {{1, 2}}, {{1, 65535}}, {{65535, 65535}}, {{2, 65534}}, {{256, 257}},
		{{1, 1}, {3, 3}}, {{1, 5}, {7, 7}}, {{1, 5}, {8, 9}}, {{1, 65533}, {65535, 65535}}, {{1, 1}, {65535, 65535}},
	}
	bads := [][]Gap{
		manyGaps(17), manyGaps(18), manyGaps(272), manyGaps(40000),
		{{0, 0}}, {{0, 1}}, {{0, 65535}}, {{-1, 1}}, {{-1, -1}}, {{1, 0}}, {{1, -1}}, {{-65535, 1}},
		{{1, 65536}}, {{65535, 65536}}, {{65536, 65536}}, {{65536, 65537}}, {{65536, 1}}, {{65537, 65537}},
		{{2, 1}}, {{5, 3}}, {{65535, 65534}}, {{65535, 1}},
		{{1, 1}, {1, 1}}, {{1, 1}, {2, 2}}, {{1, 5}, {6, 6}}, {{1, 5}, {5, 5}}, {{1, 5}, {5, 9}}, {{1, 5}, {3, 3}}, {{1, 5}, {2, 9}},
		{{3, 3}, {1, 1}}, {{1, 1}, {3, 3}, {4, 4}}, {{1, 1}, {3, 3}, {3, 3}}, {{1, 1}, {3, 3}, {1, 1}}, {{1, 1}, {0, 0}}, {{1, 1}, {3, 2}}, {{1, 1}, {3, 65536}},
		{{1, 65534}, {65536, 65536}}, {{1, 65535}, {65537, 65537}}, {{1, 5}, {1 << 32, 1<<32 + 1}},
		{{1, math.MaxInt64}}, {{1, math.MaxInt64}, {math.MinInt64, 5}}, {{math.MinInt64, 1}}, {{math.MinInt64, math.MaxInt64}}, {{math.MaxInt64, math.MaxInt64}}, {{1<<32 + 1, 1<<32 + 1}}, {{1, 1<<32 + 1}},
	}
	checkBounds(t, boundsOf("Gaps", []int{Sack}, func(c *Chunk, l []Gap) { c.Gaps = l }, goods, bads))
}

func TestBoundsOfDups(t *testing.T) {
	many := func(n int) []uint32 { return slices.Repeat([]uint32{7}, n) }
	checkBounds(t, boundsOf("Dups", []int{Sack}, func(c *Chunk, l []uint32) { c.Dups = l },
		[][]uint32{nil, {}, many(1), many(2), many(15), many(16), {3, 2, 1}}, [][]uint32{many(17), many(18), many(272), many(65536)}))
	isGood(t, "neither gaps nor Dups", Chunk{Kind: Sack})
	isGood(t, "as many as may be of both", Chunk{Kind: Sack, TSN: 1, Gaps: manyGaps(16), Dups: many(16)})
	isNotGood(t, "too many gaps, and Dups", Chunk{Kind: Sack, Gaps: manyGaps(17), Dups: many(15)})
	isNotGood(t, "too many Dups, and gaps", Chunk{Kind: Sack, Gaps: manyGaps(15), Dups: many(17)})
}

func TestGreatestChunk(t *testing.T) {
	most := func(kind int) Chunk {
		c := Chunk{Kind: kind, Tag: math.MaxUint32, Window: 1<<31 - 1, Out: 8, In: 8, TSN: math.MaxUint32, Random: someBytes(64), Addrs: slices.Repeat([]api.Addr{1<<31 - 1}, 4)}
		if kind == InitAck {
			c.Info = someBytes(300)
		}
		return c
	}
	isGood(t, "the greatest Init", most(Init))
	isGood(t, "the greatest InitAck", most(InitAck))
	if b, _ := Bytes(most(InitAck)); len(b) != 4+16+68+4*8+304 {
		t.Errorf("the greatest InitAck: %d bytes", len(b))
	}
}

// The least chunks, and those that have only what must be set.
func TestZeroChunksOfEachKind(t *testing.T) {
	zeros := []int{Sack, Abort, Shutdown, ShutdownAck, Error, CookieAck, ShutdownComplete, AsconfAck}
	for _, kind := range kinds {
		what := "a zero chunk of kind " + strconv.Itoa(kind)
		if slices.Contains(zeros, kind) {
			isGood(t, what, Chunk{Kind: kind})
		} else {
			isNotGood(t, what, Chunk{Kind: kind})
		}
	}
}

func TestWhatAKindDoesNotUse(t *testing.T) {
	for _, thing := range things() {
		for _, kind := range kinds {
			for k, set := range thing.sets {
				what := thing.name + " of kind " + strconv.Itoa(kind) + ", the " + strconv.Itoa(k) + "th"
				if c := changed(kind, set); slices.Contains(thing.uses, kind) {
					isGood(t, what, c)
				} else {
					isNotGood(t, what, c)
				}
			}
		}
	}
	for _, kind := range kinds {
		isNotGood(t, "all set, kind "+strconv.Itoa(kind), changed(kind, func(c *Chunk) {
			*c = full()
			c.Kind = kind
		}))
	}
}

// Numbers below 0 are set, too.
func TestWhatAKindDoesNotUseBelowNought(t *testing.T) {
	for _, kind := range []int{Data, Heartbeat, Shutdown, CookieAck, Asconf} {
		for k, set := range []func(*Chunk){
			func(c *Chunk) { c.Window = -1 },
			func(c *Chunk) { c.Out = -1 },
			func(c *Chunk) { c.In = -1 },
			func(c *Chunk) { c.Cause = -1 },
			func(c *Chunk) { c.Window = 1 << 32 },
			func(c *Chunk) { c.Addrs = []api.Addr{0} },
			func(c *Chunk) { c.Gaps = []Gap{{}} },
			func(c *Chunk) { c.Random = []byte{0} },
		} {
			isNotGood(t, "kind "+strconv.Itoa(kind)+", thing "+strconv.Itoa(k), changed(kind, set))
		}
	}
}

// Lists without anything in them are nought, be they nil or not.
func TestEmptyListsAreNought(t *testing.T) {
	for _, kind := range kinds {
		c := goodOf(kind)
		want := wantBytes(kind)
		if kind != Data {
			c.Piece.Text = []byte{}
		}
		for _, list := range []*[]byte{&c.Random, &c.Info} {
			if *list == nil {
				*list = someBytes(9)[:0]
			}
		}
		if c.Addrs == nil {
			c.Addrs = []api.Addr{}
		}
		if c.Gaps == nil {
			c.Gaps = []Gap{}
		}
		if c.Dups == nil {
			c.Dups = []uint32{}
		}
		if c.Ops == nil {
			c.Ops = []Op{}
		}
		if b, err := Bytes(c); !Good(c) || err != nil || !bytes.Equal(b, want) {
			t.Errorf("kind %d: %x, %v", kind, b, err)
		}
	}
}

func TestKindsThatThereAreNot(t *testing.T) {
	for _, kind := range noKinds {
		what := "kind " + strconv.Itoa(kind)
		isNotGood(t, what, Chunk{Kind: kind})
		for _, like := range kinds {
			isNotGood(t, what, changed(like, func(c *Chunk) { c.Kind = kind }))
		}
	}
	for kind := range 256 {
		c, err := Read([]byte{byte(kind), 0, 0, 4})
		// Of these kinds there are chunks without a value.
		if kind == ShutdownAck || kind == CookieAck || kind == ShutdownComplete {
			if err != nil || !Same(c, Chunk{Kind: kind}) {
				t.Errorf("kind %d: %v, %v", kind, c, err)
			}
			continue
		}
		isRefused(t, "without a value", []byte{byte(kind), 0, 0, 4})
	}
	for kind := range 256 {
		for _, like := range kinds {
			b := wantBytes(like)
			b[0] = byte(kind)
			isReadAsTold(t, "kind "+strconv.Itoa(kind)+", as of "+strconv.Itoa(like), b)
		}
	}
}

func TestFlagsOfData(t *testing.T) {
	for flags := range 256 {
		b := []byte{0, byte(flags), 0, 13, 1, 2, 3, 4, 5, 6, 7, 8, 'x', 0, 0, 0}
		if flags > 7 {
			isRefused(t, "flags that aren't Data's", b)
			continue
		}
		want := Chunk{Piece: api.Piece{TSN: 0x01020304, Stream: 0x0506, Seq: 0x0708, End: flags&1 > 0, Begin: flags&2 > 0, Unordered: flags&4 > 0, Text: []byte("x")}}
		if c, err := Read(b); err != nil || !Same(c, want) {
			t.Errorf("flags %d: %v, %v", flags, c, err)
		}
		if own, err := Bytes(want); err != nil || !bytes.Equal(own, b) {
			t.Errorf("flags %d: %x, %v", flags, own, err)
		}
	}
}

func TestFlagsOfOtherKinds(t *testing.T) {
	for _, kind := range kinds[1:] {
		for flags := 1; flags < 256; flags++ {
			b := wantBytes(kind)
			b[1] = byte(flags)
			isRefused(t, "kind "+strconv.Itoa(kind), b)
		}
	}
}

// P7.1: Read.

func TestReadOfNoBytes(t *testing.T) {
	isRefused(t, "nil", nil)
	isRefused(t, "empty", []byte{})
	isRefused(t, "none of several", wantBytes(Init)[:0])
}

func TestReadOfBeginnings(t *testing.T) {
	r := rand.New(rand.NewSource(1))
	for _, kind := range kinds {
		wholes := [][]byte{wantBytes(kind)}
		for range 5 {
			wholes = append(wholes, slowBytes(randomGood(r, kind)))
		}
		for _, whole := range wholes {
			for n := range whole {
				isRefused(t, "a beginning, kind "+strconv.Itoa(kind), whole[:n])
			}
		}
	}
}

func TestReadOfBytesBehind(t *testing.T) {
	for _, kind := range kinds {
		for n := 1; n < 9; n++ {
			isRefused(t, "noughts behind", append(wantBytes(kind), make([]byte, n)...))
			isRefused(t, "bytes behind", append(wantBytes(kind), someBytes(n)...))
		}
		for _, other := range kinds {
			isRefused(t, "another chunk behind", append(wantBytes(kind), wantBytes(other)...))
		}
		isRefused(t, "bytes ahead", append([]byte{0}, wantBytes(kind)...))
	}
}

// padded is right bytes of each kind that can have padding, with 0 to 3 noughts.
func padded() (list [][]byte, noughts []int) {
	for n := 1; n <= 8; n++ {
		for _, c := range []Chunk{
			{Kind: Data, Piece: api.Piece{Text: someBytes(n)}},
			{Kind: CookieEcho, Info: someBytes(n)},
			{Kind: Heartbeat, Info: someBytes(n)},
			{Kind: HeartbeatAck, Info: someBytes(n)},
			changed(InitAck, func(c *Chunk) { c.Info = someBytes(n) }),
		} {
			list = append(list, slowBytes(c))
			noughts = append(noughts, (8-n)%4)
		}
	}
	return list, noughts
}

func TestReadOfPadding(t *testing.T) {
	list, noughts := padded()
	for k, b := range list {
		if _, err := Read(b); err != nil {
			t.Errorf("%x: %v", b, err)
		}
		for n := range noughts[k] {
			for _, other := range []byte{1, 2, 128, 255} {
				c := slices.Clone(b)
				c[len(c)-1-n] = other
				isRefused(t, "padding that isn't nought", c)
			}
			isRefused(t, "too little padding", b[:len(b)-1-n])
		}
		isRefused(t, "too much padding", append(slices.Clone(b), 0, 0, 0, 0))
	}
	// The padding of what stands in the middle.
	for place := 25; place < 28; place++ {
		for _, kind := range []int{Init, InitAck} {
			b := wantBytes(kind)
			b[place] = 1
			isRefused(t, "Random's padding", b)
		}
	}
}

func TestReadOfOtherLengths(t *testing.T) {
	for _, kind := range kinds {
		right := wantBytes(kind)
		size := int(right[2])*256 + int(right[3])
		for other := 0; other < 65536; other += 1 + other/100*7 {
			b := slices.Clone(right)
			b[2], b[3] = byte(other>>8), byte(other)
			// Texts and cookies may have a nought more or less, as long as the padding is.
			if ok := isReadAsTold(t, "another length", b); ok && other != size && kind != Data && kind != CookieEcho {
				t.Errorf("kind %d: length %d instead of %d was read", kind, other, size)
			}
		}
	}
	for _, b := range [][]byte{
		{11, 0, 0, 3}, {11, 0, 0, 5}, {11, 0, 0, 0}, {11, 0, 0, 8}, {11, 0, 4, 0}, {11, 0, 0, 8, 0, 0, 0, 0},
		{7, 0, 0, 7, 0, 0, 0, 0}, {7, 0, 0, 9, 0, 0, 0, 0}, {7, 0, 0, 7, 0, 0, 0}, {7, 0, 0, 9, 0, 0, 0, 0, 0, 0, 0, 0},
		{10, 0, 0, 6, 1, 2, 3, 0}, {10, 0, 0, 9, 1, 2, 3, 0}, {10, 0, 0, 4}, {10, 0, 0, 4, 0, 0, 0, 0},
		{0, 0, 0, 12, 0, 0, 0, 1, 0, 2, 0, 3}, {0, 0, 0, 16, 0, 0, 0, 1, 0, 2, 0, 3, 'a', 'b', 'c', 'd', 'e', 0, 0, 0},
		{4, 0, 0, 9, 0, 1, 0, 5, 1, 0, 0, 0}, {4, 0, 0, 11, 0, 1, 0, 5, 1, 0, 0, 0}, {4, 0, 0, 13, 0, 1, 0, 5, 1, 0, 0, 0},
	} {
		isRefused(t, "a wrong length", b)
	}
	// Here the nought is the text's own.
	if c, err := Read([]byte{10, 0, 0, 8, 1, 2, 3, 0}); err != nil || !Same(c, Chunk{Kind: CookieEcho, Info: []byte{1, 2, 3, 0}}) {
		t.Errorf("%v, %v", c, err)
	}
}

// Too long for what the kind uses, with a right length.
func TestReadOfTooMuch(t *testing.T) {
	whole := func(kind int, value []byte) []byte {
		return slowPad(append(slowNum([]byte{byte(kind), 0}, len(value)+4, 2), value...))
	}
	for _, n := range []int{0, 65, 66, 68, 400} {
		isRefused(t, "a text", whole(Data, append(make([]byte, 8), someBytes(n)...)))
	}
	for _, n := range []int{0, 301, 302, 304, 4000, 65531} {
		isRefused(t, "a cookie", whole(CookieEcho, someBytes(n)))
	}
	for _, n := range []int{0, 301, 304, 3996, 4000, 4001, 60000} {
		isRefused(t, "a heartbeat", whole(Heartbeat, slowParam(nil, 1, someBytes(n))))
	}
	for _, n := range []int{0, 28, 31, 33, 36, 64} {
		isRefused(t, "a seal", whole(Auth, someBytes(n)))
	}
	for _, kind := range kinds {
		for _, n := range []int{4, 8, 12, 16, 32, 36, 60000} {
			isReadAsTold(t, "noughts", whole(kind, make([]byte, n)))
			isReadAsTold(t, "other bytes", whole(kind, someBytes(n)))
			isReadAsTold(t, "noughts behind the value", whole(kind, append(wantBytes(kind)[4:], make([]byte, n)...)))
		}
	}
}

// start is the bytes of Init or InitAck with any parameters.
func start(kind int, params ...[]byte) []byte {
	value := slices.Concat(wantBytes(Init)[4:20], slices.Concat(params...))
	return append(slowNum([]byte{byte(kind), 0}, len(value)+4, 2), value...)
}

func TestReadOfParametersOfInit(t *testing.T) {
	random, seven, eight, info := slowParam(nil, 0x8002, []byte{1}), slowParam(nil, 5, []byte{0, 0, 0, 7}), slowParam(nil, 5, []byte{0, 0, 0, 8}), slowParam(nil, 7, []byte{6, 6})
	for _, b := range [][]byte{start(Init, random, seven, eight), start(InitAck, random, seven, eight, info)} {
		if c, err := Read(b); err != nil || !Same(c, goodOf(int(b[0]))) {
			t.Fatalf("%x: %v, %v", b, c, err)
		}
	}
	if c, err := Read(start(Init, random, eight, seven)); err != nil || !slices.Equal(c.Addrs, []api.Addr{8, 7}) {
		t.Errorf("addresses the other way: %v, %v", c, err)
	}
	wrong := [][][]byte{
		{}, {random}, {seven}, {seven, eight}, {info}, {random, info}, {seven, info},
		{seven, random, eight}, {seven, eight, random}, {seven, random}, {info, random, seven}, {random, info, seven}, {random, seven, info, eight}, {seven, random, info},
		{random, random, seven}, {random, seven, random}, {random, seven, info, info}, {random, seven, info, random},
		{random, seven, seven, seven, seven, seven}, {random, seven, seven, seven, seven, seven, info},
		{random, {0, 5, 0, 8, 0, 0, 0, 7, 0}, info}, {random, seven, {0}}, {random, seven, {0, 0, 0, 0}}, {random, seven, info, {0, 0, 0, 0}},
	}
	for _, kind := range []int{0, 1, 2, 3, 4, 6, 8, 0x8001, 0x8003, 0x8005, 0x8007, 0xc001, 0xc002, 0xc004, 0x0280, 0x0500, 0x0700, 65535} {
		odd := slowParam(nil, kind, []byte{0, 0, 0, 9})
		wrong = append(wrong, [][]byte{odd, random, seven}, [][]byte{random, odd, seven}, [][]byte{random, seven, odd}, [][]byte{random, odd}, [][]byte{odd, seven},
			[][]byte{odd, random, seven, info}, [][]byte{random, odd, seven, info}, [][]byte{random, seven, odd, info}, [][]byte{random, seven, info, odd}, [][]byte{random, odd, info})
	}
	for _, value := range [][]byte{{}, {7}, {0, 0, 7}, {0, 0, 0, 7, 0}, {0, 0, 0, 7, 0, 0, 0, 8}, {0, 0, 0, 0}, {128, 0, 0, 0}, {255, 255, 255, 255}} {
		odd := slowParam(nil, 5, value)
		wrong = append(wrong, [][]byte{random, odd}, [][]byte{random, seven, odd}, [][]byte{random, odd, seven, info}, [][]byte{random, odd, info})
	}
	for _, n := range []int{0, 65, 66, 68} {
		wrong = append(wrong, [][]byte{slowParam(nil, 0x8002, someBytes(n)), seven}, [][]byte{slowParam(nil, 0x8002, someBytes(n)), seven, info})
	}
	for _, n := range []int{0, 301, 304} {
		wrong = append(wrong, [][]byte{random, seven, slowParam(nil, 7, someBytes(n))})
	}
	for _, params := range wrong {
		isRefused(t, "wrong parameters", start(Init, params...))
		isRefused(t, "wrong parameters", start(InitAck, params...))
	}
	isRefused(t, "Info in Init", start(Init, random, seven, info))
	isRefused(t, "no Info in InitAck", start(InitAck, random, seven))
}

func TestReadOfParametersOfHeartbeats(t *testing.T) {
	whole := func(kind int, value []byte) []byte {
		return append(slowNum([]byte{byte(kind), 0}, len(value)+4, 2), value...)
	}
	right := slowParam(nil, 1, []byte{1, 2, 3, 4, 5})
	for _, kind := range []int{Heartbeat, HeartbeatAck} {
		if c, err := Read(whole(kind, right)); err != nil || !Same(c, goodOf(kind)) {
			t.Fatalf("%v, %v", c, err)
		}
		isRefused(t, "no parameter", whole(kind, nil))
		isRefused(t, "two parameters", whole(kind, append(slices.Clone(right), right...)))
		isRefused(t, "a parameter behind", whole(kind, append(slices.Clone(right), 0, 2, 0, 4)))
		isRefused(t, "a parameter ahead", whole(kind, append([]byte{0, 2, 0, 4}, right...)))
		for _, other := range []int{0, 2, 3, 5, 7, 256, 257, 0x8001, 0x8002, 0xc001, 65535} {
			isRefused(t, "a parameter of another kind", whole(kind, slowParam(nil, other, []byte{1, 2, 3, 4})))
		}
	}
}

// ops is the bytes of Asconf with any parameters.
func ops(params ...[]byte) []byte {
	value := slices.Concat([]byte{0, 0, 0, 6}, slices.Concat(params...))
	return append(slowNum([]byte{193, 0}, len(value)+4, 2), value...)
}

func TestReadOfParametersOfAsconf(t *testing.T) {
	add, del, primary := slowParam(nil, 0xc001, []byte{0, 0, 0, 9}), slowParam(nil, 0xc002, []byte{0, 0, 0, 1}), slowParam(nil, 0xc004, []byte{0, 0, 0, 9})
	if c, err := Read(ops(add, del, primary)); err != nil || !Same(c, goodOf(Asconf)) {
		t.Fatalf("%v, %v", c, err)
	}
	// Ops have no order but their own, and may be there twice.
	if c, err := Read(ops(primary, add, add)); err != nil || !slices.Equal(c.Ops, []Op{{4, 9}, {1, 9}, {1, 9}}) {
		t.Errorf("%v, %v", c, err)
	}
	if c, err := Read(ops(slices.Repeat([][]byte{del}, 9)...)); err != nil || len(c.Ops) != 9 {
		t.Errorf("nine ops: %v, %v", c, err)
	}
	isRefused(t, "ten ops", ops(slices.Repeat([][]byte{del}, 10)...))
	isRefused(t, "no op", ops())
	isRefused(t, "no serial", []byte{193, 0, 0, 4})
	for _, kind := range []int{0, 1, 2, 3, 4, 5, 7, 0x8002, 0x8001, 0x4001, 0xc000, 0xc003, 0xc005, 0xc006, 0xc008, 0xc101, 0x01c0, 65535} {
		odd := slowParam(nil, kind, []byte{0, 0, 0, 9})
		isRefused(t, "another kind", ops(odd))
		isRefused(t, "another kind ahead", ops(odd, add))
		isRefused(t, "another kind behind", ops(add, odd))
	}
	for _, value := range [][]byte{{}, {7}, {0, 0, 7}, {0, 0, 0, 7, 0}, {0, 0, 0, 7, 0, 0, 0, 8}, {0, 0, 0, 0}, {128, 0, 0, 0}, {255, 255, 255, 255}} {
		for _, kind := range []int{0xc001, 0xc002, 0xc004} {
			isRefused(t, "a wrong address", ops(slowParam(nil, kind, value)))
			isRefused(t, "a wrong address behind", ops(add, slowParam(nil, kind, value)))
		}
	}
	isRefused(t, "bytes behind", ops(add, []byte{0}))
	isRefused(t, "noughts behind", ops(add, []byte{0, 0, 0, 0}))
}

func TestReadOfCounts(t *testing.T) {
	whole := func(gaps, dups int, list ...byte) []byte {
		value := append(slowNum(slowNum(make([]byte, 8), gaps, 2), dups, 2), list...)
		return append(slowNum([]byte{3, 0}, len(value)+4, 2), value...)
	}
	three := []byte{0, 1, 0, 2, 0, 4, 0, 5, 0, 7, 0, 8}
	for gaps := range 20 {
		for dups := range 20 {
			b := whole(gaps, dups, three...)
			if right := isReadAsTold(t, "counts", b); right != (gaps+dups == 3) {
				t.Errorf("%d gaps, %d Dups, of three: %v", gaps, dups, right)
			}
		}
	}
	for _, n := range []int{256, 259, 32768, 65533, 65535} {
		isRefused(t, "too many gaps", whole(n, 0, three...))
		isRefused(t, "too many Dups", whole(0, n, three...))
		isRefused(t, "too many of both", whole(n, n, three...))
	}
	isRefused(t, "17 Dups", whole(0, 17, make([]byte, 68)...))
	isRefused(t, "half a gap", whole(1, 0, 0, 1))
	isRefused(t, "half a Dup", whole(0, 1, 0, 1))
	for _, list := range [][]byte{{0, 0, 0, 1}, {0, 2, 0, 1}, {0, 0, 0, 0}, {0, 1, 0, 2, 0, 3, 0, 3}, {0, 4, 0, 5, 0, 1, 0, 2}, {0, 1, 0, 2, 0, 1, 0, 2}} {
		isRefused(t, "gaps that aren't good", whole(len(list)/4, 0, list...))
	}
	many := slowBytes(Chunk{Kind: Sack, Gaps: manyGaps(17)})
	isRefused(t, "17 gaps", many)
}

// Numbers whose bytes fit, but which are out of their bounds.
func TestReadOfNumbersOutOfBounds(t *testing.T) {
	spoilt := func(kind, place int, list ...byte) []byte {
		b := wantBytes(kind)
		copy(b[place:], list)
		return b
	}
	for _, kind := range []int{Init, InitAck} {
		isRefused(t, "Tag", spoilt(kind, 4, 0, 0, 0, 0))
		isRefused(t, "Window", spoilt(kind, 8, 128, 0, 0, 0))
		isRefused(t, "Window", spoilt(kind, 8, 255, 255, 255, 255))
		for _, place := range []int{12, 14} {
			isRefused(t, "Out or In", spoilt(kind, place, 0, 0))
			isRefused(t, "Out or In", spoilt(kind, place, 0, 9))
			isRefused(t, "Out or In", spoilt(kind, place, 1, 1))
			isRefused(t, "Out or In", spoilt(kind, place, 255, 255))
		}
		if c, err := Read(spoilt(kind, 8, 127, 255, 255, 255)); err != nil || c.Window != 1<<31-1 {
			t.Errorf("the greatest window: %v, %v", c, err)
		}
	}
	isRefused(t, "Window of Sack", spoilt(Sack, 8, 128, 0, 0, 0))
	for _, kind := range []int{Abort, Error} {
		for _, list := range [][]byte{{0, 0}, {0, 3}, {0, 5}, {0, 8}, {1, 4}, {4, 0}, {255, 255}} {
			isRefused(t, "four", spoilt(kind, 6, list...))
		}
		if c, err := Read(spoilt(kind, 4, 255, 255)); err != nil || c.Cause != 65535 {
			t.Errorf("the greatest cause: %v, %v", c, err)
		}
	}
	for _, list := range [][]byte{{0, 0, 0, 2}, {0, 0, 0, 3}, {0, 0, 1, 0}, {0, 1, 0, 1}, {1, 0, 0, 0}, {1, 0, 0, 1}, {255, 255, 255, 255}} {
		isRefused(t, "neither 1 nor 0", spoilt(AsconfAck, 8, list...))
	}
	if c, err := Read(spoilt(AsconfAck, 8, 0, 0, 0, 0)); err != nil || c.OK || c.Serial != 6 {
		t.Errorf("not OK: %v, %v", c, err)
	}
}

// Each byte of right bytes, as each other one.
func TestReadOfEachByteChanged(t *testing.T) {
	for _, kind := range kinds {
		right := wantBytes(kind)
		for place := range right {
			for other := range 256 {
				b := slices.Clone(right)
				b[place] = byte(other)
				isReadAsTold(t, "a byte changed", b)
			}
		}
	}
}

// Right bytes with little changed are right often enough.
func TestReadOfAnyBytes(t *testing.T) {
	r := rand.New(rand.NewSource(2))
	rights := 0
	for range 30000 {
		b := slowBytes(randomGood(r, kinds[r.Intn(len(kinds))]))
		for range r.Intn(4) {
			switch place := r.Intn(len(b)); r.Intn(4) {
			case 0:
				b[place] = byte(r.Uint32())
			case 1:
				b[place] ^= 1 << r.Intn(8)
			case 2:
				b[place] = 0
			case 3:
				b = slices.Insert(b, place, randomBytes(r, 4)...)
				b[3] += 4
			}
		}
		if isReadAsTold(t, "any bytes", b) {
			rights++
		}
	}
	for range 30000 {
		isReadAsTold(t, "random bytes", append([]byte{byte(kinds[r.Intn(len(kinds))]), 0, 0, byte(r.Intn(24))}, randomBytes(r, r.Intn(6)*4)...))
	}
	if rights < 5000 || rights > 25000 {
		t.Errorf("%d of the texts were right", rights)
	}
}

// P7.1: Split.

// splits tells of a Split that answers otherwise than these.
func splits(t *testing.T, what string, b []byte, kind int, one, rest []byte) {
	t.Helper()
	gotKind, gotOne, gotRest, err := Split(b)
	if err != nil || gotKind != kind || !bytes.Equal(gotOne, one) || !bytes.Equal(gotRest, rest) {
		t.Errorf("%s: %x: %d, %x, %x, %v", what, b, gotKind, gotOne, gotRest, err)
	}
}

// splitRefused tells of a Split that doesn't answer this error, and nothing else.
func splitRefused(t *testing.T, what string, b []byte, want error) {
	t.Helper()
	kind, one, rest, err := Split(b)
	if err != want || kind != 0 || one != nil || rest != nil {
		t.Errorf("%s: %x: %d, %x, %x, %v", what, b, kind, one, rest, err)
	}
}

func TestSplitOfNoBytes(t *testing.T) {
	splitRefused(t, "nil", nil, api.ErrNone)
	splitRefused(t, "empty", []byte{}, api.ErrNone)
	splitRefused(t, "none of several", wantBytes(Init)[:0], api.ErrNone)
}

func TestSplitOfWrongBytes(t *testing.T) {
	for _, b := range [][]byte{
		{1}, {1, 0}, {11, 0, 0}, {0}, {0, 0, 0}, {0, 0, 4},
		{11, 0, 0, 0}, {11, 0, 0, 1}, {11, 0, 0, 2}, {11, 0, 0, 3}, {1, 0, 0, 3, 0, 0, 0, 0}, {1, 0, 0, 0, 0, 0, 0, 0},
		{10, 0, 0, 5}, {10, 0, 0, 5, 1}, {10, 0, 0, 5, 1, 0}, {10, 0, 0, 5, 1, 0, 0}, {10, 0, 0, 8, 1, 2, 3}, {10, 0, 0, 9, 1, 2, 3, 4}, {10, 0, 0, 9, 1, 2, 3, 4, 5, 0, 0},
		{10, 0, 1, 0, 1, 2, 3, 4}, {10, 0, 255, 255, 1, 2, 3, 4},
		{10, 0, 0, 5, 1, 0, 0, 1}, {10, 0, 0, 5, 1, 0, 1, 0}, {10, 0, 0, 5, 1, 1, 0, 0}, {10, 0, 0, 6, 1, 2, 0, 255}, {10, 0, 0, 6, 1, 2, 128, 0}, {10, 0, 0, 7, 1, 2, 3, 1},
		{10, 0, 0, 5, 1, 0, 0, 1, 11, 0, 0, 4}, {10, 0, 0, 5, 1, 11, 0, 0, 4},
	} {
		splitRefused(t, "wrong bytes", b, api.ErrForm)
	}
	for _, kind := range kinds {
		whole := wantBytes(kind)
		for n := 1; n < len(whole); n++ {
			splitRefused(t, "a beginning", whole[:n], api.ErrForm)
		}
	}
}

func TestSplitOfOneAndSeveral(t *testing.T) {
	for _, kind := range kinds {
		one := wantBytes(kind)
		splits(t, "one", one, kind, one, nil)
		for n := 1; n < 9; n++ {
			// What is behind isn't looked at.
			splits(t, "bytes behind", slices.Concat(one, someBytes(n)), kind, one, someBytes(n))
			splits(t, "noughts behind", slices.Concat(one, make([]byte, n)), kind, one, make([]byte, n))
		}
		for _, other := range kinds {
			rest := slices.Concat(wantBytes(other), one, []byte{9})
			splits(t, "several", slices.Concat(one, rest), kind, one, rest)
		}
	}
}

// Whether there is such a kind, and whether it is good, isn't asked.
func TestSplitOfAnyKindFlagsAndValue(t *testing.T) {
	for kind := range 256 {
		for _, flags := range []byte{0, 1, 8, 255} {
			for size := range 14 {
				one := slowPad(append([]byte{byte(kind), flags, 0, byte(size + 4)}, someBytes(size)...))
				splits(t, "alone", one, kind, one, nil)
				splits(t, "with bytes behind", slices.Concat(one, []byte{1, 2}), kind, one, []byte{1, 2})
			}
		}
	}
}

func TestSplitOfAllLengths(t *testing.T) {
	room := someBytes(65536 + 8)
	for size := 4; size < 65536; size += 1 + size%7*size/500 {
		b := slices.Clone(room)
		b[0], b[2], b[3] = 77, byte(size>>8), byte(size)
		whole := (size + 3) / 4 * 4
		clear(b[size:whole])
		splits(t, "length "+strconv.Itoa(size), b[:whole+5], 77, b[:whole], b[whole:whole+5])
		splitRefused(t, "length "+strconv.Itoa(size)+", one too few", b[:whole-1], api.ErrForm)
	}
	whole := slices.Concat([]byte{77, 1, 255, 255}, make([]byte, 65532))
	splits(t, "the greatest length", whole, 77, whole, nil)
}

// A packet's chunks come one by one.
func TestSplitTillNothingIsLeft(t *testing.T) {
	var all []byte
	for _, kind := range kinds {
		all = append(all, wantBytes(kind)...)
	}
	rest := all
	for _, kind := range kinds {
		got, one, behind, err := Split(rest)
		if err != nil || got != kind {
			t.Fatal(kind, got, err)
		}
		if c, err := Read(one); err != nil || !Same(c, goodOf(kind)) {
			t.Errorf("kind %d: %v, %v", kind, c, err)
		}
		rest = behind
	}
	splitRefused(t, "behind the last one", rest, api.ErrNone)
}

// P7.1: Same, Copy and Known.

func TestSameOfEachThing(t *testing.T) {
	bases := map[string]func() Chunk{
		"zero": func() Chunk { return Chunk{} },
		"full": full,
	}
	for _, kind := range kinds {
		bases["kind "+strconv.Itoa(kind)] = func() Chunk { return goodOf(kind) }
	}
	for name, base := range bases {
		if !Same(base(), base()) {
			t.Errorf("%s: not the same as itself", name)
		}
		other := base()
		other.Kind++
		if Same(other, base()) || Same(base(), other) {
			t.Errorf("%s: another kind", name)
		}
		for _, thing := range things() {
			isUnlike(t, name+", "+thing.name, base, thing)
		}
	}
}

// isUnlike tells of two values of a thing that are taken for the same.
func isUnlike(t *testing.T, what string, base func() Chunk, thing thing) {
	t.Helper()
	list := append(slices.Clone(thing.sets), thing.nought)
	for j := range list {
		for k := range list {
			a, b := base(), base()
			list[j](&a)
			list[k](&b)
			if Same(a, b) != (j == k) {
				t.Errorf("%s: the %dth and the %dth: %v", what, j, k, j != k)
			}
		}
	}
}

func TestSameOfNilAndEmptyLists(t *testing.T) {
	empty := Chunk{Random: []byte{}, Addrs: []api.Addr{}, Info: []byte{}, Gaps: []Gap{}, Dups: []uint32{}, Ops: []Op{}}
	empty.Piece.Text = someBytes(3)[:0]
	if !Same(empty, Chunk{}) || !Same(Chunk{}, empty) || !Same(empty, empty) {
		t.Error("nil and empty lists aren't the same")
	}
}

func TestSameOfLists(t *testing.T) {
	for k, pair := range [][2]Chunk{
		{{Addrs: []api.Addr{1, 2, 3}}, {Addrs: []api.Addr{1, 2, 4}}},
		{{Addrs: []api.Addr{1, 2, 3}}, {Addrs: []api.Addr{1, 2}}},
		{{Addrs: []api.Addr{0}}, {}},
		{{Addrs: []api.Addr{1}}, {Addrs: []api.Addr{1<<32 + 1}}},
		{{Gaps: []Gap{{1, 2}, {4, 5}}}, {Gaps: []Gap{{1, 2}, {4, 6}}}},
		{{Gaps: []Gap{{1, 2}, {4, 5}}}, {Gaps: []Gap{{1, 2}, {3, 5}}}},
		{{Gaps: []Gap{{1, 2}}}, {Gaps: []Gap{{2, 1}}}},
		{{Gaps: []Gap{{}}}, {}},
		{{Dups: []uint32{1, 2}}, {Dups: []uint32{2, 1}}},
		{{Dups: []uint32{0}}, {}},
		{{Ops: []Op{{1, 2}}}, {Ops: []Op{{2, 1}}}},
		{{Ops: []Op{{1, 2}, {2, 3}}}, {Ops: []Op{{1, 2}, {4, 3}}}},
		{{Ops: []Op{{}}}, {}},
		{{Random: []byte{0}}, {}},
		{{Random: []byte("ab")}, {Random: []byte("ac")}},
		{{Random: []byte("a")}, {Info: []byte("a")}},
		{{Info: []byte("ab")}, {Info: []byte("a")}},
		{{Piece: api.Piece{Text: []byte("ab")}}, {Piece: api.Piece{Text: []byte("bb")}}},
		{{Piece: api.Piece{TSN: 1}}, {TSN: 1}},
		{{Window: 1}, {Window: 1<<32 + 1}},
		{{Window: -1}, {Window: 1}},
		{{Out: 1}, {In: 1}},
		{{Tag: 1}, {Serial: 1}},
	} {
		if Same(pair[0], pair[1]) || Same(pair[1], pair[0]) || !Same(pair[0], pair[0]) || !Same(pair[1], pair[1]) {
			t.Errorf("pair %d", k)
		}
	}
}

func TestCopyOfEachKind(t *testing.T) {
	for _, kind := range kinds {
		if c := goodOf(kind); !Same(Copy(c), c) || Copy(c).Kind != kind || !Good(Copy(c)) {
			t.Errorf("kind %d: %v", kind, Copy(c))
		}
	}
	// What isn't good is copied, too.
	for _, kind := range append(slices.Clone(kinds), noKinds...) {
		c := full()
		c.Kind = kind
		if got := Copy(c); got.Kind != kind || !Same(got, c) {
			t.Errorf("all set, kind %d: %v", kind, got)
		}
	}
	for _, thing := range things() {
		for k, set := range thing.sets {
			var c Chunk
			set(&c)
			if got := Copy(c); !Same(got, c) || Same(got, Chunk{}) {
				t.Errorf("%s, the %dth: %v", thing.name, k, got)
			}
		}
	}
	if !Same(Copy(Chunk{}), Chunk{}) {
		t.Error("a zero chunk")
	}
}

func TestKnown(t *testing.T) {
	for kind := -1; kind <= 256; kind++ {
		if Known(kind) != slices.Contains(kinds, kind) {
			t.Errorf("kind %d: %v", kind, Known(kind))
		}
	}
	for _, kind := range noKinds {
		if Known(kind) {
			t.Errorf("kind %d", kind)
		}
	}
}

// P7.2: a good chunk's bytes are read to it; what is read has these bytes.

func TestThereAndBack(t *testing.T) {
	r := rand.New(rand.NewSource(3))
	for _, kind := range kinds {
		for range 500 {
			c := randomGood(r, kind)
			b, err := Bytes(c)
			if !Good(c) || err != nil || !bytes.Equal(b, slowBytes(c)) || len(b)%4 != 0 {
				t.Fatalf("%v: %x, %v", c, b, err)
			}
			got, err := Read(b)
			if err != nil || !Same(got, c) || !Good(got) {
				t.Fatalf("%v, read: %v, %v", c, got, err)
			}
			if again, err := Bytes(got); err != nil || !bytes.Equal(again, b) {
				t.Fatalf("%v, its bytes again: %x, %v", c, again, err)
			}
			splits(t, "its bytes", b, kind, b, nil)
		}
	}
}

func TestWhatIsReadHasTheseBytes(t *testing.T) {
	r := rand.New(rand.NewSource(4))
	reads := 0
	for range 20000 {
		b := slowBytes(randomGood(r, kinds[r.Intn(len(kinds))]))
		b[r.Intn(len(b))] ^= 1 << r.Intn(8)
		c, err := Read(b)
		if err != nil {
			continue
		}
		reads++
		if own, err := Bytes(c); err != nil || !bytes.Equal(own, b) || !Good(c) {
			t.Fatalf("%x: %v has the bytes %x, %v", b, c, own, err)
		}
	}
	if reads < 5000 {
		t.Errorf("only %d of the texts were read", reads)
	}
}

// P7.3: what is handed in is neither changed nor kept; answers are new memory.

// roomy is the same list with room behind it, in which something stands.
func roomy[T any](list []T, behind T) []T {
	room := append(slices.Clone(list), slices.Repeat([]T{behind}, 8)...)
	return room[:len(list)]
}

// withRoom is the same chunk whose lists all have room behind them.
func withRoom(c Chunk) Chunk {
	c.Piece.Text = roomy(c.Piece.Text, 0xdd)
	c.Random = roomy(c.Random, 0xdd)
	c.Addrs = roomy(c.Addrs, 0xdd)
	c.Info = roomy(c.Info, 0xdd)
	c.Gaps = roomy(c.Gaps, Gap{0xdd, 0xdd})
	c.Dups = roomy(c.Dups, 0xdd)
	c.Ops = roomy(c.Ops, Op{0xdd, 0xdd})
	return c
}

// stretched is the same chunk whose lists reach over all of their room.
func stretched(c Chunk) Chunk {
	c.Piece.Text = c.Piece.Text[:cap(c.Piece.Text)]
	c.Random = c.Random[:cap(c.Random)]
	c.Addrs = c.Addrs[:cap(c.Addrs)]
	c.Info = c.Info[:cap(c.Info)]
	c.Gaps = c.Gaps[:cap(c.Gaps)]
	c.Dups = c.Dups[:cap(c.Dups)]
	c.Ops = c.Ops[:cap(c.Ops)]
	return c
}

// fill writes all over a list, and into the room behind it.
func fill[T any](list []T, x T) {
	list = list[:cap(list)]
	for k := range list {
		list[k] = x
	}
}

// spoil writes all over a chunk's lists, and into the room behind them.
func spoil(c Chunk) {
	fill(c.Piece.Text, 0xee)
	fill(c.Random, 0xee)
	fill(c.Addrs, 0xee)
	fill(c.Info, 0xee)
	fill(c.Gaps, Gap{0xee, 0xee})
	fill(c.Dups, 0xee)
	fill(c.Ops, Op{0xee, 0xee})
}

// samples is good chunks of each kind, and some that aren't good.
func samples() []func() Chunk {
	list := []func() Chunk{
		full,
		func() Chunk { return Chunk{} },
		func() Chunk { return Chunk{Kind: Sack, Gaps: manyGaps(17), Dups: []uint32{1}} },
		func() Chunk { return Chunk{Kind: Sack, Gaps: manyGaps(16), Dups: slices.Repeat([]uint32{1}, 16)} },
		func() Chunk { return Chunk{Kind: Asconf, Ops: slices.Repeat([]Op{{1, 1}}, 9)} },
		func() Chunk { return Chunk{Kind: CookieEcho, Info: someBytes(300)} },
	}
	for _, kind := range kinds {
		list = append(list, func() Chunk { return goodOf(kind) })
	}
	return list
}

func TestWhatIsHandedInIsNotChanged(t *testing.T) {
	for k, sample := range samples() {
		c := withRoom(sample())
		before := Copy(stretched(c))
		Good(c)
		_, _ = Bytes(c)
		Same(c, c)
		Same(c, sample())
		spoil(Copy(c))
		if !Same(stretched(c), before) {
			t.Errorf("sample %d is changed", k)
		}
	}
	for _, kind := range kinds {
		one := wantBytes(kind)
		room := slices.Concat(one, someBytes(12))
		for n := range len(room) + 1 {
			b := room[:n]
			c, _ := Read(b)
			spoil(c)
			_, first, rest, _ := Split(b)
			fill(first, 0xee)
			fill(rest, 0xee)
			if !bytes.Equal(room, slices.Concat(one, someBytes(12))) {
				t.Fatalf("kind %d, %d bytes: what was handed in is changed", kind, n)
			}
		}
	}
}

func TestWhatIsHandedInMayChange(t *testing.T) {
	for k, sample := range samples() {
		c := sample()
		own := Copy(c)
		b, err := Bytes(c)
		before := slices.Clone(b)
		spoil(c)
		if !Same(own, sample()) {
			t.Errorf("sample %d: changing it changed its copy", k)
		}
		if !bytes.Equal(b, before) || (err == nil) != Good(sample()) {
			t.Errorf("sample %d: changing it changed its bytes", k)
		}
	}
	for _, kind := range kinds {
		whole := slices.Concat(wantBytes(kind), someBytes(12))
		b := whole[:len(whole)-12]
		c, err := Read(b)
		_, one, rest, splitErr := Split(whole)
		fill(whole, 0xee)
		if err != nil || !Same(c, goodOf(kind)) {
			t.Errorf("kind %d: changing the bytes changed the chunk: %v, %v", kind, c, err)
		}
		if splitErr != nil || !bytes.Equal(one, wantBytes(kind)) || !bytes.Equal(rest, someBytes(12)) {
			t.Errorf("kind %d: changing the bytes changed what was split: %x, %x", kind, one, rest)
		}
	}
}

// lists is how to spoil each list of a chunk by itself.
func lists() map[string]func(Chunk) {
	return map[string]func(Chunk){
		"Text":   func(c Chunk) { fill(c.Piece.Text, 0xee) },
		"Random": func(c Chunk) { fill(c.Random, 0xee) },
		"Addrs":  func(c Chunk) { fill(c.Addrs, 0xee) },
		"Info":   func(c Chunk) { fill(c.Info, 0xee) },
		"Gaps":   func(c Chunk) { fill(c.Gaps, Gap{0xee, 0xee}) },
		"Dups":   func(c Chunk) { fill(c.Dups, 0xee) },
		"Ops":    func(c Chunk) { fill(c.Ops, Op{0xee, 0xee}) },
	}
}

// without is a chunk without one of its lists.
func without(c Chunk, name string) Chunk {
	c = Copy(c)
	for _, thing := range things() {
		if thing.name == name {
			thing.nought(&c)
		}
	}
	return c
}

func TestCopiesAreApart(t *testing.T) {
	for k, sample := range samples() {
		for name, spoilOne := range lists() {
			c := withRoom(sample())
			room := Copy(stretched(c))
			first, second := Copy(c), Copy(c)
			spoilOne(first)
			if !Same(second, sample()) || !Same(stretched(c), room) {
				t.Errorf("sample %d: changing %s of a copy changed another one", k, name)
			}
			if !Same(without(first, name), without(sample(), name)) {
				t.Errorf("sample %d: changing %s changed another list of the copy", k, name)
			}
		}
	}
	// Also where two lists handed in are one.
	text := []byte("abc")
	c := Copy(Chunk{Piece: api.Piece{Text: text}, Random: text, Info: text})
	fill(c.Random, 0xee)
	if string(c.Piece.Text) != "abc" || string(c.Info) != "abc" || string(text) != "abc" {
		t.Error("lists of a copy share memory")
	}
}

func TestBytesAreApart(t *testing.T) {
	for _, kind := range kinds {
		c := goodOf(kind)
		first, _ := Bytes(c)
		second, _ := Bytes(c)
		fill(first, 0xee)
		third, _ := Bytes(c)
		if !bytes.Equal(second, wantBytes(kind)) || !bytes.Equal(third, second) || !Same(c, goodOf(kind)) {
			t.Errorf("kind %d: changing its bytes changed something else", kind)
		}
	}
}

func TestReadChunksAreApart(t *testing.T) {
	for _, kind := range kinds {
		for name, spoilOne := range lists() {
			b := wantBytes(kind)
			first, err := Read(b)
			second, otherErr := Read(b)
			if err != nil || otherErr != nil {
				t.Fatal(kind, err, otherErr)
			}
			spoilOne(first)
			if !Same(second, goodOf(kind)) || !bytes.Equal(b, wantBytes(kind)) {
				t.Errorf("kind %d: changing %s changed another answer, or what was handed in", kind, name)
			}
			if !Same(without(first, name), without(goodOf(kind), name)) {
				t.Errorf("kind %d: changing %s changed another list", kind, name)
			}
		}
	}
}

func TestSplitBytesAreApart(t *testing.T) {
	for _, kind := range kinds {
		want := wantBytes(kind)
		b := slices.Concat(want, someBytes(9))
		_, one, rest, err := Split(b)
		_, otherOne, otherRest, otherErr := Split(b)
		if err != nil || otherErr != nil {
			t.Fatal(kind, err, otherErr)
		}
		fill(one, 0xee)
		if !bytes.Equal(rest, someBytes(9)) || !bytes.Equal(otherOne, want) {
			t.Errorf("kind %d: changing the first one, or putting something behind it, changed something else", kind)
		}
		_, one, rest, _ = Split(b)
		fill(rest, 0xee)
		if !bytes.Equal(one, want) || !bytes.Equal(otherRest, someBytes(9)) || !bytes.Equal(b, slices.Concat(want, someBytes(9))) {
			t.Errorf("kind %d: changing the rest changed something else", kind)
		}
	}
}

func TestSeveralAtOnce(t *testing.T) {
	chunks := []Chunk{goodOf(InitAck), goodOf(Sack), goodOf(Asconf), goodOf(Data)}
	done := make(chan bool)
	for range 8 {
		go func() {
			right := true
			for k := range 200 {
				c := chunks[k%len(chunks)]
				b, err := Bytes(c)
				got, readErr := Read(b)
				right = right && err == nil && readErr == nil && Same(got, c) && Same(Copy(c), c)
			}
			done <- right
		}()
	}
	for range 8 {
		if !<-done {
			t.Error("calls at the same time disturb each other")
		}
	}
}
