package auth

import (
	"bytes"
	"crypto/hmac"
	"crypto/sha256"
	"encoding/hex"
	"errors"
	"math"
	"math/rand"
	"reflect"
	"slices"
	"strconv"
	"testing"

	"weftline/api"
	"weftline/chunk"
	"weftline/packet"
)

// kinds is all kinds of chunks.
var kinds = []int{0, 1, 2, 3, 4, 5, 6, 7, 8, 9, 10, 11, 14, 15, 128, 193}

// noKinds is some of which there are no chunks.
var noKinds = []int{-1, 12, 13, 16, 127, 129, 192, 194, 255, 256 + 15, 256 + 193, -15, 1<<32 + 15, 1<<32 + 1, math.MinInt64, math.MaxInt64}

// ab is the key of the randoms a and b, reckoned by another program.
var ab = unhex("a28e48b8201dab1c0454745e8ed88c9a31975076dfd5c128bcb352d8378d05f6")

func unhex(s string) []byte {
	b, err := hex.DecodeString(s)
	if err != nil {
		panic(err)
	}
	return b
}

// goodOf is a good chunk of a kind, in which all that the kind uses is set.
func goodOf(kind int) chunk.Chunk {
	c := chunk.Chunk{Kind: kind}
	switch kind {
	case chunk.Data:
		c.Piece = api.Piece{TSN: 1, Stream: 2, Seq: 3, Begin: true, Unordered: true, Text: []byte("abcde")}
	case chunk.Init, chunk.InitAck:
		c.Tag, c.Window, c.Out, c.In, c.TSN = 5, 2000, 2, 3, 9
		c.Random, c.Addrs = []byte{1, 2}, []api.Addr{7, 8}
		if kind == chunk.InitAck {
			c.Info = []byte{6, 6}
		}
	case chunk.Sack:
		c.TSN, c.Window = 4, 5
		c.Gaps, c.Dups = []chunk.Gap{{From: 2, To: 3}, {From: 5, To: 5}}, []uint32{8, 7, 7}
	case chunk.Heartbeat, chunk.HeartbeatAck, chunk.CookieEcho:
		c.Info = []byte{1, 2, 3, 4, 5}
	case chunk.Abort, chunk.Error:
		c.Cause = 258
	case chunk.Shutdown:
		c.TSN = 0x01020304
	case chunk.Auth:
		c.Info = bytes.Repeat([]byte{7}, 32)
	case chunk.Asconf:
		c.Serial = 6
		c.Ops = []chunk.Op{{Kind: chunk.Add, Addr: 9}, {Kind: chunk.Delete, Addr: 1}, {Kind: chunk.Primary, Addr: 9}}
	case chunk.AsconfAck:
		c.Serial, c.OK = 6, true
	}
	return c
}

// listOf is good chunks of these kinds.
func listOf(kinds ...int) []chunk.Chunk {
	var list []chunk.Chunk
	for _, kind := range kinds {
		list = append(list, goodOf(kind))
	}
	return list
}

// badOf is chunks that aren't good, each in another way.
func badOf() []chunk.Chunk {
	list := []chunk.Chunk{
		{Kind: chunk.Data},              // no text
		{Kind: chunk.CookieAck, Tag: 1}, // what isn't used is set
		{Kind: chunk.CookieAck, Info: []byte{1}},
		{Kind: chunk.Sack, Window: -1},
		{Kind: chunk.CookieEcho, Info: make([]byte, 301)},
		{Kind: chunk.Asconf, Serial: 1},
		{Kind: chunk.AsconfAck, Cause: 1},
		{Kind: chunk.Auth},
		{Kind: chunk.Auth, Info: make([]byte, 31)},
		{Kind: chunk.Auth, Info: make([]byte, 33)},
		{Kind: chunk.Auth, Info: make([]byte, 32), OK: true},
	}
	for _, kind := range noKinds {
		list = append(list, chunk.Chunk{Kind: kind})
	}
	return list
}

// copies is the same chunks in new memory.
func copies(list []chunk.Chunk) []chunk.Chunk {
	var other []chunk.Chunk
	for _, c := range list {
		other = append(other, chunk.Copy(c))
	}
	return other
}

// joined is a list of all these, in new memory.
func joined(lists ...[]chunk.Chunk) []chunk.Chunk {
	return copies(slices.Concat(lists...))
}

func same(a, b []chunk.Chunk) bool { return slices.EqualFunc(a, b, chunk.Same) }

// slowInfo is the Info that seals good chunks, by the chapter's words and the library's HMAC.
func slowInfo(key []byte, list []chunk.Chunk) ([]byte, bool) {
	var text []byte
	for _, c := range list {
		b, err := chunk.Bytes(c)
		if err != nil {
			return nil, false
		}
		text = append(text, b...)
	}
	h := hmac.New(sha256.New, key)
	h.Write(text)
	return h.Sum(nil), true
}

// slowSealed tells whether a list is sealed from a place on, by the chapter's words.
func slowSealed(key []byte, list []chunk.Chunk, from int) bool {
	info, ok := slowInfo(key, list[from+1:])
	return ok && chunk.Same(list[from], chunk.Chunk{Kind: 15, Info: info})
}

// slowChecked is Checked by the chapter's words.
func slowChecked(key []byte, list []chunk.Chunk) ([]chunk.Chunk, error) {
	first := -1
	var rest []chunk.Chunk
	for k, c := range list {
		if c.Kind == 15 && first < 0 {
			first = k
		}
		if c.Kind != 15 {
			rest = append(rest, c)
		}
	}
	if first >= 0 && !slowSealed(key, list, first) {
		return nil, api.ErrAuth
	}
	for k, c := range list {
		if (c.Kind == 193 || c.Kind == 128) && (first < 0 || k < first) {
			return nil, api.ErrAuth
		}
	}
	return rest, nil
}

// mustSeal is the chunk that seals a list.
func mustSeal(t *testing.T, key []byte, list ...chunk.Chunk) chunk.Chunk {
	t.Helper()
	s, err := Seal(key, list...)
	if err != nil {
		t.Fatalf("%+v: %v", list, err)
	}
	return s
}

// withSeal is a list with its seal ahead of it.
func withSeal(t *testing.T, key []byte, list ...chunk.Chunk) []chunk.Chunk {
	t.Helper()
	return joined([]chunk.Chunk{mustSeal(t, key, list...)}, list)
}

// isNotSealed tells of a list that is taken for sealed.
func isNotSealed(t *testing.T, what string, key []byte, list ...chunk.Chunk) {
	t.Helper()
	if Sealed(key, list...) {
		t.Errorf("%s: sealed: %+v", what, list)
	}
}

// isRefused tells of a list that is checked for right.
func isRefused(t *testing.T, what string, key []byte, list ...chunk.Chunk) {
	t.Helper()
	if got, err := Checked(key, list...); err != api.ErrAuth || len(got) != 0 {
		t.Errorf("%s: not refused: %+v, %v", what, got, err)
	}
}

// isChecked tells of a list that isn't checked to be just another one.
func isChecked(t *testing.T, what string, key []byte, want []chunk.Chunk, list ...chunk.Chunk) {
	t.Helper()
	if got, err := Checked(key, list...); err != nil || !same(got, want) {
		t.Errorf("%s: %+v, %v, not %+v", what, got, err, want)
	}
}

func randomBytes(r *rand.Rand, n int) []byte {
	b := make([]byte, n)
	r.Read(b)
	return b
}

// P10.1: Key.

func TestKey(t *testing.T) {
	for _, c := range []struct{ a, b, want string }{
		{"a", "b", "a28e48b8201dab1c0454745e8ed88c9a31975076dfd5c128bcb352d8378d05f6"},
		{"b", "a", "a28e48b8201dab1c0454745e8ed88c9a31975076dfd5c128bcb352d8378d05f6"},
		{"", "", "bdf49c3c3882102fc017ffb661108c63a836d065888a4093994398cc55c2ea2f"},
	} {
		if key := Key([]byte(c.a), []byte(c.b)); hex.EncodeToString(key) != c.want {
			t.Errorf("%q and %q: %x, not %s", c.a, c.b, key, c.want)
		}
	}
	if !bytes.Equal(Key(nil, nil), Key([]byte{}, []byte{})) || !bytes.Equal(Key(nil, []byte("b")), Key([]byte("b"), []byte{})) {
		t.Error("nil and empty randoms aren't the same")
	}
}

func TestKeyOfAnyRandoms(t *testing.T) {
	r := rand.New(rand.NewSource(1))
	for range 3000 {
		a, b := randomBytes(r, r.Intn(70)), randomBytes(r, r.Intn(70))
		if r.Intn(3) == 0 && len(a) > 0 { // one is a beginning of the other one
			b = a[:r.Intn(len(a))]
		}
		less, more := a, b
		if string(a) > string(b) {
			less, more = b, a
		}
		want := sha256.Sum256(slices.Concat(less, more, []byte("auth")))
		if key := Key(a, b); !bytes.Equal(key, want[:]) || !bytes.Equal(Key(b, a), key) {
			t.Fatalf("%x and %x: %x, not %x", a, b, key, want)
		}
	}
}

// P10.1: Seal.

// The seals are reckoned by another program from bytes that are written out.
func TestSeal(t *testing.T) {
	ack := chunk.Chunk{Kind: chunk.CookieAck}
	move := chunk.Chunk{Kind: chunk.Asconf, Serial: 1, Ops: []chunk.Op{{Kind: chunk.Add, Addr: 4}}}
	for k, c := range []struct {
		key  []byte
		list []chunk.Chunk
		want string
	}{
		{ab, nil, "e95e55c159fdf694d9c57ea55e7ea626c2a4f45b0940b210beb4338783c8ea97"},
		{ab, []chunk.Chunk{}, "e95e55c159fdf694d9c57ea55e7ea626c2a4f45b0940b210beb4338783c8ea97"},
		{ab, []chunk.Chunk{ack}, "1e27a28294af89e5b266ce9a08c625dca104632efbbfa05cc3b82fba6b7d5574"},
		{ab, []chunk.Chunk{move, ack}, "c8883551f172cfa94e744c03e7e0daf8a21cf8847b5f0a02d98b1ba0fe115d61"},
		{nil, []chunk.Chunk{ack}, "c1aedbfbbe7b595368d799eed67ec51454075f97b472fef5427719e12d109297"},
		{[]byte{}, []chunk.Chunk{ack}, "c1aedbfbbe7b595368d799eed67ec51454075f97b472fef5427719e12d109297"},
	} {
		s, err := Seal(c.key, c.list...)
		if err != nil || !chunk.Same(s, chunk.Chunk{Kind: 15, Info: unhex(c.want)}) {
			t.Errorf("%d: %+v, %v", k, s, err)
		}
	}
}

// What is sealed may be of any kind, an Auth chunk too, and in any number and order.
func TestSealOfAllKinds(t *testing.T) {
	var lists [][]chunk.Chunk
	for _, one := range kinds {
		lists = append(lists, listOf(one))
		for _, two := range kinds {
			lists = append(lists, listOf(one, two))
		}
	}
	lists = append(lists, listOf(kinds...), listOf(slices.Repeat(kinds, 4)...))
	for _, key := range [][]byte{nil, ab, bytes.Repeat([]byte{9}, 64), bytes.Repeat([]byte{9}, 65), bytes.Repeat([]byte{9}, 200)} {
		for _, list := range lists {
			want, _ := slowInfo(key, list)
			s, err := Seal(key, list...)
			if err != nil || !chunk.Same(s, chunk.Chunk{Kind: 15, Info: want}) || !chunk.Good(s) {
				t.Fatalf("%+v: %+v, %v, not %x", list, s, err, want)
			}
			if !Sealed(key, joined([]chunk.Chunk{s}, list)...) {
				t.Fatalf("%+v: not sealed by %+v", list, s)
			}
		}
	}
}

func TestWhatIsNotGoodIsNotSealed(t *testing.T) {
	for _, bad := range badOf() {
		for at := range 4 {
			list := listOf(chunk.Data, chunk.Asconf, chunk.CookieAck)
			list = slices.Insert(list, at, bad)
			if s, err := Seal(ab, list...); err != api.ErrForm || !chunk.Same(s, chunk.Chunk{}) {
				t.Errorf("%+v: %+v, %v", list, s, err)
			}
		}
		if s, err := Seal(nil, bad); !errors.Is(err, api.ErrForm) || !chunk.Same(s, chunk.Chunk{}) {
			t.Errorf("%+v: %+v, %v", bad, s, err)
		}
	}
}

// P10.1: Sealed.

func TestSealed(t *testing.T) {
	list := listOf(chunk.Asconf, chunk.CookieAck, chunk.Data)
	s := mustSeal(t, ab, list...)
	none := mustSeal(t, ab)
	if !Sealed(ab, joined([]chunk.Chunk{s}, list)...) || !Sealed(ab, none) {
		t.Error("not sealed")
	}
	isNotSealed(t, "nothing", ab)
	isNotSealed(t, "nothing, and no key", nil)
	isNotSealed(t, "no seal", ab, list...)
	isNotSealed(t, "the seal alone", ab, s)
	isNotSealed(t, "the seal of nothing ahead of some", ab, joined([]chunk.Chunk{none}, list)...)
	isNotSealed(t, "the seal behind", ab, joined(list, []chunk.Chunk{s})...)
	isNotSealed(t, "the seal behind the first one", ab, joined(list[:1], []chunk.Chunk{s}, list[1:])...)
	isNotSealed(t, "a chunk ahead", ab, joined(listOf(chunk.CookieAck), []chunk.Chunk{s}, list)...)
	isNotSealed(t, "the last one left out", ab, joined([]chunk.Chunk{s}, list[:2])...)
	isNotSealed(t, "the first one left out", ab, joined([]chunk.Chunk{s}, list[1:])...)
	isNotSealed(t, "one more", ab, joined([]chunk.Chunk{s}, list, listOf(chunk.CookieAck))...)
	isNotSealed(t, "one doubled", ab, joined([]chunk.Chunk{s}, list[:1], list)...)
	isNotSealed(t, "the seal doubled", ab, joined([]chunk.Chunk{s, s}, list)...)
	isNotSealed(t, "another order", ab, s, list[1], list[0], list[2])
	isNotSealed(t, "another order", ab, s, list[0], list[2], list[1])
}

// The seal is good as an Auth chunk, and has nothing but that Info.
func TestASealHasNothingButItsInfo(t *testing.T) {
	list := listOf(chunk.Asconf)
	for k, change := range []func(*chunk.Chunk){
		func(c *chunk.Chunk) { c.Kind = chunk.CookieEcho },
		func(c *chunk.Chunk) { c.Kind = chunk.Heartbeat },
		func(c *chunk.Chunk) { c.Kind += 256 },
		func(c *chunk.Chunk) { c.Kind = 0 },
		func(c *chunk.Chunk) { c.Piece.TSN = 1 },
		func(c *chunk.Chunk) { c.Piece.Stream = 1 },
		func(c *chunk.Chunk) { c.Piece.Seq = 1 },
		func(c *chunk.Chunk) { c.Piece.Begin = true },
		func(c *chunk.Chunk) { c.Piece.End = true },
		func(c *chunk.Chunk) { c.Piece.Unordered = true },
		func(c *chunk.Chunk) { c.Piece.Text = []byte{0} },
		func(c *chunk.Chunk) { c.Tag = 1 },
		func(c *chunk.Chunk) { c.Window = 1 },
		func(c *chunk.Chunk) { c.Out = 1 },
		func(c *chunk.Chunk) { c.In = 1 },
		func(c *chunk.Chunk) { c.TSN = 1 },
		func(c *chunk.Chunk) { c.Random = []byte{0} },
		func(c *chunk.Chunk) { c.Addrs = []api.Addr{1} },
		func(c *chunk.Chunk) { c.Gaps = []chunk.Gap{{From: 1, To: 1}} },
		func(c *chunk.Chunk) { c.Dups = []uint32{0} },
		func(c *chunk.Chunk) { c.Cause = 1 },
		func(c *chunk.Chunk) { c.Serial = 1 },
		func(c *chunk.Chunk) { c.Ops = []chunk.Op{{Kind: chunk.Add, Addr: 1}} },
		func(c *chunk.Chunk) { c.OK = true },
		func(c *chunk.Chunk) { c.Info = nil },
		func(c *chunk.Chunk) { c.Info = []byte{} },
		func(c *chunk.Chunk) { c.Info = c.Info[:31] },
		func(c *chunk.Chunk) { c.Info = c.Info[1:] },
		func(c *chunk.Chunk) { c.Info = c.Info[:4] },
		func(c *chunk.Chunk) { c.Info = append(c.Info, 0) },
		func(c *chunk.Chunk) { c.Info = append([]byte{0}, c.Info...) },
		func(c *chunk.Chunk) { c.Info = make([]byte, 32) },
	} {
		sealed := withSeal(t, ab, list...)
		if !Sealed(ab, sealed...) {
			t.Fatal("not sealed")
		}
		change(&sealed[0])
		isNotSealed(t, "change "+strconv.Itoa(k), ab, sealed...)
		isRefused(t, "change "+strconv.Itoa(k), ab, sealed...)
	}
}

func TestEmptyListsOfASealAreNil(t *testing.T) {
	list := withSeal(t, ab, goodOf(chunk.Asconf))
	s := &list[0]
	s.Piece.Text, s.Random, s.Addrs, s.Gaps, s.Dups, s.Ops = []byte{}, []byte{}, []api.Addr{}, []chunk.Gap{}, []uint32{}, []chunk.Op{}
	list[1].Addrs, list[1].Info = []api.Addr{}, []byte{}
	if !Sealed(ab, list...) {
		t.Error("not sealed")
	}
	isChecked(t, "empty lists", ab, listOf(chunk.Asconf), list...)
}

// All chunks behind a seal must be good, whatever stands in the seal.
func TestNothingThatIsNotGoodIsSealed(t *testing.T) {
	for _, bad := range badOf() {
		for at := range 3 {
			list := listOf(chunk.Data, chunk.CookieAck)
			for _, s := range []chunk.Chunk{mustSeal(t, ab, list...), mustSeal(t, ab, list[:at]...), mustSeal(t, ab, list[at:]...), mustSeal(t, ab)} {
				whole := joined([]chunk.Chunk{s}, list[:at], []chunk.Chunk{bad}, list[at:])
				isNotSealed(t, "with one that isn't good", ab, whole...)
				isRefused(t, "with one that isn't good", ab, whole...)
			}
		}
	}
}

// P10.1: Checked.

func TestChecked(t *testing.T) {
	ack, data, move, done := goodOf(chunk.CookieAck), goodOf(chunk.Data), goodOf(chunk.Asconf), goodOf(chunk.AsconfAck)
	list := func(l ...chunk.Chunk) []chunk.Chunk { return l }
	seal := func(l ...chunk.Chunk) chunk.Chunk { return mustSeal(t, ab, l...) }
	wrong := goodOf(chunk.Auth)
	for _, c := range []struct {
		what  string
		list  []chunk.Chunk
		want  []chunk.Chunk
		right bool
	}{
		{"nothing", nil, nil, true},
		{"no seal", list(ack), list(ack), true},
		{"several without a seal", list(ack, data, ack), list(ack, data, ack), true},
		{"an Asconf alone", list(move), nil, false},
		{"an AsconfAck alone", list(done), nil, false},
		{"an Asconf at the end", list(ack, data, move), nil, false},
		{"an AsconfAck in the middle", list(ack, done, data), nil, false},
		{"a seal of nothing", list(seal()), nil, true},
		{"one sealed", list(seal(ack), ack), list(ack), true},
		{"an Asconf sealed", list(seal(move), move), list(move), true},
		{"an AsconfAck sealed", list(seal(done), done), list(done), true},
		{"both sealed", list(seal(move, data, done), move, data, done), list(move, data, done), true},
		{"chunks ahead of the seal", list(ack, data, seal(move, ack), move, ack), list(ack, data, move, ack), true},
		{"a seal at the end", list(ack, data, seal()), list(ack, data), true},
		{"an Asconf ahead of the seal", list(move, seal(ack), ack), nil, false},
		{"an AsconfAck ahead of the seal", list(done, seal(ack), ack), nil, false},
		{"an Asconf ahead of a seal of nothing", list(ack, move, seal()), nil, false},
		{"Asconfs ahead and behind", list(move, seal(move), move), nil, false},
		{"a wrong seal", list(wrong), nil, false},
		{"a wrong seal of what needs none", list(wrong, ack), nil, false},
		{"a wrong seal behind", list(ack, wrong), nil, false},
		{"a seal of what stands ahead of it", list(ack, seal(ack)), nil, false},
		{"a seal of all", list(ack, seal(ack, data), data), nil, false},
		{"a seal of less", list(seal(move), move, ack), nil, false},
		{"a second seal, sealed", list(seal(seal(ack), ack), seal(ack), ack), list(ack), true},
		{"a second seal behind, sealed", list(seal(move, seal(ack), ack), move, seal(ack), ack), list(move, ack), true},
		{"a second seal that is wrong, sealed", list(seal(wrong, move), wrong, move), list(move), true},
		{"three seals", list(ack, seal(wrong, move, wrong), wrong, move, wrong), list(ack, move), true},
		{"an Asconf between seals", list(seal(move, seal()), move, seal()), list(move), true},
		{"a second seal that isn't sealed", list(seal(move), move, seal()), nil, false},
		{"a right seal behind a wrong one", list(wrong, seal(move), move), nil, false},
		{"a right seal behind one of less", list(seal(), seal(move), move), nil, false},
	} {
		if c.right {
			isChecked(t, c.what, ab, c.want, c.list...)
		} else {
			isRefused(t, c.what, ab, c.list...)
		}
		if want, err := slowChecked(ab, c.list); (err == nil) != c.right || !same(want, c.want) {
			t.Errorf("%s: the slow one tells %+v, %v", c.what, want, err)
		}
	}
}

// Ahead of a seal, or where there is none, a chunk need not be good: only what is sealed must be.
func TestCheckedOfWhatIsNotGood(t *testing.T) {
	for _, bad := range badOf() {
		list := []chunk.Chunk{goodOf(chunk.CookieAck), bad, goodOf(chunk.Data)}
		behind := withSeal(t, ab, goodOf(chunk.Asconf))
		switch bad.Kind {
		case chunk.Auth, chunk.Asconf, chunk.AsconfAck:
			isRefused(t, "not good", ab, list...)
			isRefused(t, "not good, alone", ab, bad)
			isRefused(t, "not good, ahead of a seal", ab, joined(list, behind)...)
		default:
			isChecked(t, "not good", ab, list, list...)
			isChecked(t, "not good, ahead of a seal", ab, joined(list, listOf(chunk.Asconf)), joined(list, behind)...)
		}
	}
}

// Only the kinds Asconf and AsconfAck need a seal.
func TestWhichKindsNeedASeal(t *testing.T) {
	for _, kind := range slices.Concat(kinds, noKinds) {
		c := goodOf(kind)
		if kind == chunk.Asconf || kind == chunk.AsconfAck || kind == chunk.Auth {
			isRefused(t, strconv.Itoa(kind), ab, c)
			continue
		}
		isChecked(t, strconv.Itoa(kind), ab, []chunk.Chunk{c}, c)
	}
}

// randomList is some chunks, of which some are seals, right ones or not.
func randomList(r *rand.Rand, key []byte) []chunk.Chunk {
	bad := badOf()
	var list []chunk.Chunk
	for range r.Intn(7) { // from the last one on, so that a seal may be right
		c := goodOf(kinds[r.Intn(len(kinds))])
		switch r.Intn(9) {
		case 0:
			c = bad[r.Intn(len(bad))]
		case 1:
			c = goodOf(chunk.Asconf)
		case 2, 3, 4:
			if info, ok := slowInfo(key, list); ok {
				c = chunk.Chunk{Kind: 15, Info: info}
			}
		}
		list = slices.Insert(list, 0, c)
	}
	return list
}

func TestCheckedOfAnyLists(t *testing.T) {
	r := rand.New(rand.NewSource(2))
	times := map[string]int{}
	for range 30000 {
		key := randomBytes(r, r.Intn(70))
		list := randomList(r, key)
		if r.Intn(20) == 0 {
			key = append(slices.Clone(key), 1)
		}
		want, err := slowChecked(key, list)
		got, gotErr := Checked(key, list...)
		if gotErr != err || !same(got, want) {
			t.Fatalf("%+v: %+v, %v, not %+v, %v", list, got, gotErr, want, err)
		}
		sealed := len(list) > 0 && slowSealed(key, list, 0)
		if Sealed(key, list...) != sealed {
			t.Fatalf("%+v: %v", list, !sealed)
		}
		switch {
		case err != nil:
			times["refused"]++
		case len(got) < len(list):
			times["checked with seals"]++
		default:
			times["checked without"]++
		}
	}
	for _, what := range []string{"refused", "checked with seals", "checked without"} {
		if times[what] < 1000 {
			t.Errorf("%s: %d times", what, times[what])
		}
	}
}

// P10.1: Tag.

// tagged is a packet of a tag whose chunks are of these kinds.
func tagged(tag uint32, kinds ...int) packet.Packet {
	return packet.Packet{From: 1, To: 2, Tag: tag, Chunks: listOf(kinds...)}
}

// slowTag is Tag by the chapter's words.
func slowTag(p packet.Packet, mine, peers uint32) error {
	if len(p.Chunks) == 0 {
		return api.ErrForm
	}
	taken := []uint32{mine}
	if first := p.Chunks[0].Kind; first == 1 {
		taken = []uint32{0}
	} else if first == 6 || first == 14 {
		taken = append(taken, peers)
	}
	if !slices.Contains(taken, p.Tag) {
		return api.ErrTag
	}
	return nil
}

func isTagged(t *testing.T, p packet.Packet, mine, peers uint32, want error) {
	t.Helper()
	if err := Tag(p, mine, peers); err != want {
		t.Errorf("%+v, mine %d, peers %d: %v, not %v", p, mine, peers, err, want)
	}
}

func TestTag(t *testing.T) {
	for _, kind := range slices.Concat(kinds, noKinds) {
		for tag, want := range map[uint32]error{0: api.ErrTag, 4: api.ErrTag, 5: nil, 6: api.ErrTag, 7: api.ErrTag, 5 + 1<<31: api.ErrTag, math.MaxUint32: api.ErrTag} {
			switch {
			case kind == chunk.Init && tag == 0:
				want = nil
			case kind == chunk.Init:
				want = api.ErrTag
			case (kind == chunk.Abort || kind == chunk.ShutdownComplete) && tag == 6:
				want = nil
			}
			isTagged(t, tagged(tag, kind), 5, 6, want)
		}
	}
}

func TestTagsAtTheEdges(t *testing.T) {
	tags := []uint32{0, 1, 2, 1 << 31, math.MaxUint32 - 1, math.MaxUint32}
	for _, kind := range kinds {
		for _, tag := range tags {
			for _, mine := range tags {
				for _, peers := range tags {
					p := tagged(tag, kind)
					isTagged(t, p, mine, peers, slowTag(p, mine, peers))
				}
			}
		}
	}
}

// Which chunk stands first tells; the others don't.
func TestTheFirstChunkTellsWhichTag(t *testing.T) {
	for _, first := range kinds {
		for _, second := range kinds {
			for tag := range uint32(8) {
				p := tagged(tag, first, second)
				isTagged(t, p, 5, 6, slowTag(p, 5, 6))
				p = tagged(tag, first, chunk.CookieAck, second)
				isTagged(t, p, 5, 6, slowTag(p, 5, 6))
			}
		}
	}
	isTagged(t, tagged(6, chunk.Data, chunk.Abort), 5, 6, api.ErrTag)
	isTagged(t, tagged(6, chunk.Abort, chunk.Data), 5, 6, nil)
	isTagged(t, tagged(6, chunk.CookieAck, chunk.ShutdownComplete), 5, 6, api.ErrTag)
}

// A packet without chunks is ErrForm, whatever its tag is; else it need not be good.
func TestTagOfPacketsThatAreNotGood(t *testing.T) {
	for _, tag := range []uint32{0, 5, 6, 7} {
		isTagged(t, packet.Packet{From: 1, To: 2, Tag: tag}, 5, 6, api.ErrForm)
		isTagged(t, packet.Packet{Tag: tag, Chunks: []chunk.Chunk{}}, 5, 6, api.ErrForm)
		isTagged(t, packet.Packet{Tag: tag, Chunks: listOf(chunk.Data)[:0]}, tag, tag, api.ErrForm)
	}
	isTagged(t, packet.Packet{From: -1, To: math.MaxInt64, Tag: 5, Chunks: listOf(chunk.Data)}, 5, 6, nil)
	isTagged(t, packet.Packet{Tag: 5, Chunks: []chunk.Chunk{{Kind: chunk.Data}}}, 5, 6, nil)
	isTagged(t, packet.Packet{Tag: 5, Chunks: []chunk.Chunk{{Kind: 12}}}, 5, 6, nil)
	isTagged(t, tagged(5, slices.Repeat([]int{chunk.Data}, 100)...), 5, 6, nil)
	isTagged(t, tagged(7, slices.Repeat([]int{chunk.Data}, 100)...), 5, 6, api.ErrTag)
}

// P10.2: what is sealed is checked by whoever has the key; with a bit turned it isn't.

func TestWhatOneEndSealsTheOtherOneChecks(t *testing.T) {
	r := rand.New(rand.NewSource(3))
	for range 1000 {
		mine, peers := randomBytes(r, 1+r.Intn(64)), randomBytes(r, 1+r.Intn(64))
		one, other := Key(mine, peers), Key(peers, mine)
		var list []chunk.Chunk
		for range r.Intn(16) {
			kind := kinds[r.Intn(len(kinds))]
			if kind != chunk.Auth {
				list = append(list, goodOf(kind))
			}
		}
		sealed := withSeal(t, one, list...)
		if !Sealed(other, sealed...) {
			t.Fatalf("%x and %x: not sealed", mine, peers)
		}
		isChecked(t, "by the other end", other, list, sealed...)
		isChecked(t, "with one ahead", other, joined(listOf(chunk.CookieAck), list), joined(listOf(chunk.CookieAck), sealed)...)
		mine[r.Intn(len(mine))] ^= 1 << r.Intn(8)
		isNotSealed(t, "by another random", Key(mine, peers), sealed...)
		isRefused(t, "by another random", Key(peers, mine), sealed...)
	}
}

func TestWithABitOfTheKeyTurnedItIsNotChecked(t *testing.T) {
	for _, n := range []int{1, 32, 64, 65, 100} {
		key := randomBytes(rand.New(rand.NewSource(4)), n)
		list := withSeal(t, key, listOf(chunk.CookieAck, chunk.Asconf)...)
		for bit := range 8 * n {
			other := slices.Clone(key)
			other[bit/8] ^= 1 << (bit % 8)
			isNotSealed(t, "bit "+strconv.Itoa(bit)+" of the key", other, list...)
			isRefused(t, "bit "+strconv.Itoa(bit)+" of the key", other, list...)
		}
		isRefused(t, "no key", nil, list...)
	}
}

// turnEach turns each bit of all numbers and bytes, and each truth, one at a time, tells of it, and turns it back.
func turnEach(v reflect.Value, where string, tell func(where string)) {
	switch v.Kind() {
	case reflect.Struct:
		for k := range v.NumField() {
			turnEach(v.Field(k), where+"."+v.Type().Field(k).Name, tell)
		}
	case reflect.Slice:
		for k := range v.Len() {
			turnEach(v.Index(k), where+"["+strconv.Itoa(k)+"]", tell)
		}
	case reflect.Bool:
		v.SetBool(!v.Bool())
		tell(where)
		v.SetBool(!v.Bool())
	case reflect.Int:
		for bit := range v.Type().Bits() {
			v.SetInt(v.Int() ^ 1<<bit)
			tell(where + ", bit " + strconv.Itoa(bit))
			v.SetInt(v.Int() ^ 1<<bit)
		}
	default:
		for bit := range v.Type().Bits() {
			v.SetUint(v.Uint() ^ 1<<bit)
			tell(where + ", bit " + strconv.Itoa(bit))
			v.SetUint(v.Uint() ^ 1<<bit)
		}
	}
}

func TestWithABitTurnedItIsNotChecked(t *testing.T) {
	const least = 3*484 + 256 // the numbers of three chunks, and the seal's Info
	for _, kind := range kinds {
		list := withSeal(t, ab, listOf(kind, chunk.AsconfAck)...)
		want := copies(list)
		tried := 0
		for k := range list {
			turnEach(reflect.ValueOf(&list[k]).Elem(), strconv.Itoa(kind)+", chunk "+strconv.Itoa(k), func(where string) {
				tried++
				isNotSealed(t, where, ab, list...)
				isRefused(t, where, ab, list...)
				if slowSealed(ab, list, 0) {
					t.Errorf("%s: the slow one takes it for sealed", where)
				}
			})
		}
		if tried < least || !same(list, want) || !Sealed(ab, list...) {
			t.Errorf("%d: %d bits tried, and whether all were turned back: %v", kind, tried, same(list, want))
		}
	}
}

func TestWithSeveralBitsTurnedItIsNotChecked(t *testing.T) {
	r := rand.New(rand.NewSource(5))
	for range 3000 {
		list := withSeal(t, ab, listOf(chunk.CookieEcho, chunk.Asconf, kinds[r.Intn(len(kinds))])...)
		was := copies(list)
		for range 1 + r.Intn(5) {
			list[0].Info[r.Intn(32)] ^= 1 << r.Intn(8)
			list[1].Info[r.Intn(5)] ^= 1 << r.Intn(8)
			list[2].Serial ^= 1 << r.Intn(32)
		}
		if !same(list, was) {
			isNotSealed(t, "bits turned", ab, list...)
			isRefused(t, "bits turned", ab, list...)
		}
	}
}

// A seal is of one list only.
func TestSealsAreNotExchanged(t *testing.T) {
	lists := [][]chunk.Chunk{nil}
	for _, one := range kinds {
		lists = append(lists, listOf(one))
		for _, two := range kinds {
			lists = append(lists, listOf(one, two))
		}
	}
	var seals []chunk.Chunk
	seen := map[string]int{}
	for k, list := range lists {
		seals = append(seals, mustSeal(t, ab, list...))
		if j, ok := seen[string(seals[k].Info)]; ok {
			t.Errorf("%+v and %+v have the same seal", lists[j], list)
		}
		seen[string(seals[k].Info)] = k
	}
	for k, list := range lists {
		for j, s := range seals {
			if Sealed(ab, joined([]chunk.Chunk{s}, list)...) != (j == k) {
				t.Errorf("%+v by the seal of %+v: %v", list, lists[j], j != k)
			}
		}
	}
}

// P10.3: what is handed in is neither changed nor kept; answers are new memory.

// roomy is a list with room behind it, in which something stands.
func roomy[T any](list []T, behind T) []T {
	return slices.Concat(list, slices.Repeat([]T{behind}, 50))[:len(list)]
}

// whole is a list with the room behind it.
func whole[T any](list []T) []T { return list[:cap(list)] }

// spoil writes over a list and the room behind it.
func spoil[T any](list []T, by T) {
	for k := range whole(list) {
		whole(list)[k] = by
	}
}

// spoilChunks writes over all memory of chunks.
func spoilChunks(list []chunk.Chunk) {
	for k := range whole(list) {
		c := &whole(list)[k]
		spoil(c.Piece.Text, 5)
		spoil(c.Random, 5)
		spoil(c.Addrs, 5)
		spoil(c.Info, 5)
		spoil(c.Gaps, chunk.Gap{From: 5, To: 5})
		spoil(c.Dups, 5)
		spoil(c.Ops, chunk.Op{Kind: 5, Addr: 5})
		*c = chunk.Chunk{Kind: 5}
	}
}

// roomyChunks is chunks that have room behind each of their lists, and behind themselves.
func roomyChunks(list []chunk.Chunk) []chunk.Chunk {
	var other []chunk.Chunk
	for _, c := range list {
		c.Piece.Text, c.Random, c.Info = roomy(c.Piece.Text, 7), roomy(c.Random, 7), roomy(c.Info, 7)
		c.Addrs, c.Dups = roomy(c.Addrs, 7), roomy(c.Dups, 7)
		c.Gaps, c.Ops = roomy(c.Gaps, chunk.Gap{From: 7, To: 7}), roomy(c.Ops, chunk.Op{Kind: 7, Addr: 7})
		other = append(other, c)
	}
	return roomy(other, chunk.Chunk{Kind: 7})
}

// allOf is chunks with all the room behind, in new memory.
func allOf(list []chunk.Chunk) []chunk.Chunk {
	other := slices.Clone(whole(list))
	for k, c := range other {
		c.Piece.Text, c.Random, c.Info = slices.Clone(whole(c.Piece.Text)), slices.Clone(whole(c.Random)), slices.Clone(whole(c.Info))
		c.Addrs, c.Dups = slices.Clone(whole(c.Addrs)), slices.Clone(whole(c.Dups))
		c.Gaps, c.Ops = slices.Clone(whole(c.Gaps)), slices.Clone(whole(c.Ops))
		other[k] = c
	}
	return other
}

func TestWhatIsHandedInIsNotChanged(t *testing.T) {
	all := listOf(kinds...)
	for k, list := range [][]chunk.Chunk{all, withSeal(t, ab, all...), joined(listOf(chunk.Data, chunk.CookieAck), withSeal(t, ab, all...)), badOf(), withSeal(t, ab)} {
		key, random := roomy(ab, 0x77), roomy([]byte("random"), 0x77)
		list := roomyChunks(list)
		keyWas, randomWas, listWas := slices.Clone(whole(key)), slices.Clone(whole(random)), allOf(list)
		Key(random, key)
		Key(key, random)
		Seal(key, list...)
		Seal(key, list[:1]...)
		Sealed(key, list...)
		Checked(key, list...)
		Checked(random, list...)
		Tag(packet.Packet{Tag: 5, Chunks: list}, 5, 6)
		Tag(packet.Packet{Tag: 7, Chunks: list}, 5, 6)
		if !bytes.Equal(whole(key), keyWas) || !bytes.Equal(whole(random), randomWas) || !same(allOf(list), listWas) {
			t.Errorf("%d: what was handed in is changed", k)
		}
	}
}

func TestWhatIsHandedInIsNotKept(t *testing.T) {
	a, b := []byte("a"), []byte("b")
	key := Key(a, b)
	spoil(a, 5)
	spoil(b, 5)
	if !bytes.Equal(key, ab) {
		t.Error("a key changes with its randoms")
	}
	list := listOf(kinds...)
	want, _ := slowInfo(ab, list)
	s := mustSeal(t, key, list...)
	spoil(key, 5)
	spoilChunks(list)
	if !chunk.Same(s, chunk.Chunk{Kind: 15, Info: want}) {
		t.Error("a seal changes with what was handed in")
	}
	key, list = slices.Clone(ab), withSeal(t, ab, listOf(kinds...)...)
	got, err := Checked(key, list...)
	spoil(key, 5)
	spoilChunks(list)
	if rest, _ := slowChecked(ab, withSeal(t, ab, listOf(kinds...)...)); err != nil || len(rest) != len(kinds)-1 || !same(got, rest) {
		t.Errorf("what was checked changes with what was handed in: %+v, %v", got, err)
	}
}

func TestAnswersAreNewMemory(t *testing.T) {
	one, two := Key([]byte("a"), []byte("b")), Key([]byte("a"), []byte("b"))
	spoil(one, 5)
	if !bytes.Equal(two, ab) || !bytes.Equal(Key([]byte("a"), []byte("b")), ab) {
		t.Error("keys share memory")
	}
	list := listOf(kinds...)
	s, other := mustSeal(t, ab, list...), mustSeal(t, ab, list...)
	spoil(s.Info, 5)
	if want, _ := slowInfo(ab, list); !bytes.Equal(other.Info, want) || !same(list, listOf(kinds...)) {
		t.Error("a seal shares memory with another one, or with what was handed in")
	}
	for _, list := range [][]chunk.Chunk{withSeal(t, ab, list...), listOf(chunk.Data, chunk.Sack, chunk.Init)} {
		was := copies(list)
		first, err1 := Checked(ab, list...)
		second, err2 := Checked(ab, list...)
		want := copies(first)
		if err1 != nil || err2 != nil || len(first) == 0 {
			t.Fatal(err1, err2, len(first))
		}
		spoilChunks(first)
		if !same(list, was) || !same(second, want) {
			t.Error("what was checked shares memory with another answer, or with what was handed in")
		}
		for k := range second { // no two lists of one answer share any
			spoilChunks(second[k : k+1 : k+1])
			if !same(second[k+1:], want[k+1:]) {
				t.Errorf("%d shares memory with those behind it", k)
			}
		}
	}
}

// The same list of one chunk may be handed in twice; each has memory of its own in the answer.
func TestOneListHandedInTwice(t *testing.T) {
	echo := goodOf(chunk.CookieEcho)
	got, err := Checked(ab, mustSeal(t, ab, echo, echo), echo, echo)
	if err != nil || len(got) != 2 {
		t.Fatal(got, err)
	}
	spoil(got[0].Info, 9)
	if !chunk.Same(got[1], goodOf(chunk.CookieEcho)) || !chunk.Same(echo, goodOf(chunk.CookieEcho)) {
		t.Error("two chunks of one answer share memory")
	}
}

// With an error all else is the zero value.
func TestNothingBesideAnError(t *testing.T) {
	if s, err := Seal(ab, goodOf(chunk.Asconf), chunk.Chunk{Kind: 12}); err == nil || !reflect.DeepEqual(s, chunk.Chunk{}) {
		t.Errorf("%+v, %v", s, err)
	}
	for _, list := range [][]chunk.Chunk{listOf(chunk.CookieAck, chunk.Asconf), listOf(chunk.CookieAck, chunk.Auth)} {
		if got, err := Checked(ab, list...); err == nil || len(got) != 0 {
			t.Errorf("%+v, %v", got, err)
		}
	}
}

func TestSeveralAtOnce(t *testing.T) {
	list := withSeal(t, ab, listOf(kinds...)...)
	want, _ := slowChecked(ab, list)
	key := slices.Clone(ab)
	done := make(chan bool)
	for range 8 {
		go func() {
			right := true
			for range 50 {
				got, err := Checked(key, list...)
				s, err2 := Seal(key, list[1:]...)
				right = right && err == nil && err2 == nil && same(got, want) && chunk.Same(s, list[0]) && Sealed(key, list...)
			}
			done <- right
		}()
	}
	for range 8 {
		if !<-done {
			t.Error("calls at the same time disturb each other")
		}
	}
}
