package packet

import (
	"bytes"
	"encoding/binary"
	"hash/crc32"
	"math"
	"math/bits"
	"math/rand"
	"slices"
	"strconv"
	"sync"
	"testing"

	"weftline/api"
	"weftline/chunk"
)

// kinds is all kinds of chunks that there are.
var kinds = []int{0, 1, 2, 3, 4, 5, 6, 7, 8, 9, 10, 11, 14, 15, 128, 193}

// alone is the kinds that must stand alone.
var alone = []int{chunk.Init, chunk.InitAck, chunk.ShutdownComplete}

var (
	ack     = chunk.Chunk{Kind: chunk.CookieAck}
	badData = chunk.Chunk{Kind: chunk.Data} // a piece without a text
)

// goodOf is a good chunk of a kind, in which all that the kind uses is set.
func goodOf(kind int) chunk.Chunk {
	c := chunk.Chunk{Kind: kind}
	switch kind {
	case chunk.Data:
		c.Piece = api.Piece{TSN: 1, Stream: 2, Seq: 3, Begin: true, Unordered: true, Text: []byte("abcde")}
	case chunk.Init, chunk.InitAck:
		c.Tag, c.Window, c.Out, c.In, c.TSN = 5, 2000, 2, 3, 9
		c.Random, c.Addrs = []byte{1}, []api.Addr{7, 8}
		if kind == chunk.InitAck {
			c.Info = []byte{6, 6}
		}
	case chunk.Sack:
		c.TSN, c.Window = 4, 5
		c.Gaps, c.Dups = []chunk.Gap{{From: 2, To: 3}, {From: 5, To: 5}}, []uint32{8, 7, 7}
	case chunk.Heartbeat, chunk.HeartbeatAck:
		c.Info = []byte{1, 2, 3, 4, 5}
	case chunk.Abort, chunk.Error:
		c.Cause = 258
	case chunk.Shutdown:
		c.TSN = 0x01020304
	case chunk.CookieEcho:
		c.Info = []byte{1, 2, 3}
	case chunk.Auth:
		c.Info = bytes.Repeat([]byte{7}, 32)
	case chunk.Asconf:
		c.Serial = 6
		c.Ops = []chunk.Op{{Kind: chunk.Add, Addr: 9}, {Kind: chunk.Delete, Addr: 1}, {Kind: chunk.Primary, Addr: 9}}
	case chunk.AsconfAck:
		c.Serial, c.OK = 6, true
	}
	return c
}

// wantBytes is the bytes of goodOf's chunks, written out by chapter 7's words.
func wantBytes(kind int) []byte {
	switch kind {
	case chunk.Data:
		return []byte{0, 6, 0, 17, 0, 0, 0, 1, 0, 2, 0, 3, 'a', 'b', 'c', 'd', 'e', 0, 0, 0}
	case chunk.Init:
		return []byte{1, 0, 0, 44, 0, 0, 0, 5, 0, 0, 7, 208, 0, 2, 0, 3, 0, 0, 0, 9,
			128, 2, 0, 5, 1, 0, 0, 0, 0, 5, 0, 8, 0, 0, 0, 7, 0, 5, 0, 8, 0, 0, 0, 8}
	case chunk.InitAck:
		return []byte{2, 0, 0, 52, 0, 0, 0, 5, 0, 0, 7, 208, 0, 2, 0, 3, 0, 0, 0, 9,
			128, 2, 0, 5, 1, 0, 0, 0, 0, 5, 0, 8, 0, 0, 0, 7, 0, 5, 0, 8, 0, 0, 0, 8, 0, 7, 0, 6, 6, 6, 0, 0}
	case chunk.Sack:
		return []byte{3, 0, 0, 36, 0, 0, 0, 4, 0, 0, 0, 5, 0, 2, 0, 3, 0, 2, 0, 3, 0, 5, 0, 5,
			0, 0, 0, 8, 0, 0, 0, 7, 0, 0, 0, 7}
	case chunk.Heartbeat, chunk.HeartbeatAck:
		return []byte{byte(kind), 0, 0, 16, 0, 1, 0, 9, 1, 2, 3, 4, 5, 0, 0, 0}
	case chunk.Abort, chunk.Error:
		return []byte{byte(kind), 0, 0, 8, 1, 2, 0, 4}
	case chunk.Shutdown:
		return []byte{7, 0, 0, 8, 1, 2, 3, 4}
	case chunk.CookieEcho:
		return []byte{10, 0, 0, 7, 1, 2, 3, 0}
	case chunk.Auth:
		return append([]byte{15, 0, 0, 36}, bytes.Repeat([]byte{7}, 32)...)
	case chunk.Asconf:
		return []byte{193, 0, 0, 32, 0, 0, 0, 6,
			192, 1, 0, 8, 0, 0, 0, 9, 192, 2, 0, 8, 0, 0, 0, 1, 192, 4, 0, 8, 0, 0, 0, 9}
	case chunk.AsconfAck:
		return []byte{128, 0, 0, 12, 0, 0, 0, 6, 0, 0, 0, 1}
	}
	return []byte{byte(kind), 0, 0, 4} // ShutdownAck, CookieAck and ShutdownComplete
}

// data is a good chunk of Data of 12 bytes and the text's, padded.
func data(tsn, text int) chunk.Chunk {
	return chunk.Chunk{Kind: chunk.Data, Piece: api.Piece{TSN: uint32(tsn), Text: make([]byte, text)}}
}

// beat is a good Heartbeat of 8 bytes and the info's, padded.
func beat(info int) chunk.Chunk {
	return chunk.Chunk{Kind: chunk.Heartbeat, Info: make([]byte, info)}
}

// datas is so many chunks of Data, with the TSNs from 1 on.
func datas(n, text int) []chunk.Chunk {
	var list []chunk.Chunk
	for k := range n {
		list = append(list, data(k+1, text))
	}
	return list
}

// of is a packet from 1 to 2 with the tag 0.
func of(list ...chunk.Chunk) Packet {
	return Packet{From: 1, To: 2, Chunks: list}
}

// tagged is a packet from 1 to 2 with a tag.
func tagged(tag uint32, list ...chunk.Chunk) Packet {
	return Packet{From: 1, To: 2, Tag: tag, Chunks: list}
}

// isAlone tells whether chunks of a kind must stand alone.
func isAlone(kind int) bool {
	return slices.Contains(alone, kind)
}

// summed puts the right check sum into a packet's bytes, by the library.
func summed(b []byte) []byte {
	copy(b[12:16], []byte{0, 0, 0, 0})
	binary.LittleEndian.PutUint32(b[12:], crc32.Checksum(b, crc32.MakeTable(crc32.Castagnoli)))
	return b
}

// raw is a packet's bytes with the right check sum, whatever the parts behind it are.
func raw(from, to, tag uint32, parts ...[]byte) []byte {
	b := binary.BigEndian.AppendUint32(nil, from)
	b = binary.BigEndian.AppendUint32(b, to)
	b = binary.BigEndian.AppendUint32(b, tag)
	b = append(b, 0, 0, 0, 0)
	return summed(append(b, slices.Concat(parts...)...))
}

// slowBytes is the bytes that a packet has, good or not, by the chapter's words.
func slowBytes(p Packet) []byte {
	var parts [][]byte
	for _, c := range p.Chunks {
		b, _ := chunk.Bytes(c)
		parts = append(parts, b)
	}
	return raw(uint32(p.From), uint32(p.To), p.Tag, parts...)
}

// slowGood tells whether a packet of so many chunks or more is good, by the chapter's words.
func slowGood(p Packet, least int) bool {
	good := p.From >= 1 && p.From <= 2147483647 && p.To >= 1 && p.To <= 2147483647
	good = good && len(p.Chunks) >= least && len(p.Chunks) <= 16
	for _, c := range p.Chunks {
		good = good && chunk.Good(c)
		good = good && (!isAlone(c.Kind) || len(p.Chunks) == 1)
		good = good && (c.Kind != 1 || p.Tag == 0)
	}
	return good
}

// slowParse reads a packet's bytes by the chapter's words.
func slowParse(b []byte) (Read, error) {
	switch {
	case len(b) > 1200:
		return Read{}, api.ErrLarge
	case len(b) < 16:
		return Read{}, api.ErrForm
	case !bytes.Equal(b, summed(slices.Clone(b))):
		return Read{}, api.ErrSum
	}
	var r Read
	r.Packet.From = api.Addr(binary.BigEndian.Uint32(b))
	r.Packet.To = api.Addr(binary.BigEndian.Uint32(b[4:]))
	r.Packet.Tag = binary.BigEndian.Uint32(b[8:])
	for at := 16; at < len(b) && !r.Stopped; {
		if at+4 > len(b) {
			return Read{}, api.ErrForm
		}
		kind, size := int(b[at]), int(b[at+2])*256+int(b[at+3])
		whole := (size + 3) / 4 * 4
		if size < 4 || at+whole > len(b) || strayed(b[at+size:at+whole]) {
			return Read{}, api.ErrForm
		}
		if slices.Contains(kinds, kind) {
			c, err := chunk.Read(b[at : at+whole])
			if err != nil {
				return Read{}, api.ErrForm
			}
			r.Packet.Chunks = append(r.Packet.Chunks, c)
		} else {
			if kind/64%2 == 1 {
				r.Unknown = append(r.Unknown, kind)
			}
			r.Stopped = kind/128 == 0
		}
		at += whole
	}
	if !slowGood(r.Packet, 0) {
		return Read{}, api.ErrForm
	}
	return r, nil
}

// strayed tells whether there is something else than noughts.
func strayed(b []byte) bool {
	return !bytes.Equal(b, make([]byte, len(b)))
}

// slowBundle is chunks in packets, by the chapter's words.
func slowBundle(list []chunk.Chunk) [][]chunk.Chunk {
	var packets [][]chunk.Chunk
	size, ahead := 0, 0
	for _, c := range list {
		b, err := chunk.Bytes(c)
		if err != nil {
			continue
		}
		n := len(packets)
		if n > 0 && size+len(b) <= 1200 && len(packets[n-1]) < 16 && !isAlone(ahead) && !isAlone(c.Kind) {
			packets[n-1] = append(packets[n-1], c)
			size += len(b)
		} else {
			packets = append(packets, []chunk.Chunk{c})
			size = 16 + len(b)
		}
		ahead = c.Kind
	}
	return packets
}

// sameRead tells whether all of two reads is the same.
func sameRead(a, b Read) bool {
	return Same(a.Packet, b.Packet) && slices.Equal(a.Unknown, b.Unknown) && a.Stopped == b.Stopped
}

// isZero tells whether a read is the zero value.
func isZero(r Read) bool {
	return r.Packet.From == 0 && r.Packet.To == 0 && r.Packet.Tag == 0 && r.Packet.Chunks == nil && r.Unknown == nil && !r.Stopped
}

// isGood tells of a packet that isn't taken for good, or whose bytes aren't
// those of the chapter's words, or aren't read to it with nothing reported.
func isGood(t *testing.T, what string, p Packet) {
	t.Helper()
	b, err := Bytes(p)
	if !Good(p) || err != nil || !bytes.Equal(b, slowBytes(p)) || Room(p.Chunks...) != len(b) {
		t.Errorf("%s: not good: %x, %v, not %x", what, b, err, slowBytes(p))
		return
	}
	if r, err := Parse(b); err != nil || !sameRead(r, Read{Packet: p}) {
		t.Errorf("%s, read: %v, %v", what, r, err)
	}
}

// isNotGood tells of a packet that is taken for good.
func isNotGood(t *testing.T, what string, p Packet) {
	t.Helper()
	if b, err := Bytes(p); Good(p) || err != api.ErrForm || b != nil {
		t.Errorf("%s: good: %x, %v", what, b, err)
	}
}

// isRead tells of bytes that aren't read to this.
func isRead(t *testing.T, what string, b []byte, want Read) {
	t.Helper()
	if r, err := Parse(b); err != nil || !sameRead(r, want) {
		t.Errorf("%s: %x: %v, %v, not %v", what, b, r, err, want)
	}
}

// isRefused tells of bytes that aren't refused for this.
func isRefused(t *testing.T, what string, b []byte, want api.Errno) {
	t.Helper()
	if r, err := Parse(b); err != want || !isZero(r) {
		t.Errorf("%s: %x: %v, %v, not %v", what, b, r, err, want)
	}
}

// isReadAsTold tells of bytes that are read otherwise than by the chapter's
// words, and answers the error that they are refused for.
func isReadAsTold(t *testing.T, what string, b []byte) error {
	t.Helper()
	want, refused := slowParse(b)
	got, err := Parse(b)
	if refused == nil && (err != nil || !sameRead(got, want)) {
		t.Errorf("%s: %x: %v, %v, not %v", what, b, got, err, want)
	}
	if refused != nil && (err != refused || !isZero(got)) {
		t.Errorf("%s: %x: %v, %v, not %v", what, b, got, err, refused)
	}
	return refused
}

func number(n int) string { return strconv.Itoa(n) }

// P8.1: Good and Bytes.

func TestExample(t *testing.T) {
	p := tagged(3, ack)
	want := []byte{0, 0, 0, 1, 0, 0, 0, 2, 0, 0, 0, 3, 0, 0, 0, 0, 0x0b, 0, 0, 4}
	sum := crc32.Checksum(want, crc32.MakeTable(crc32.Castagnoli))
	for k := range 4 {
		want[12+k] = byte(sum >> (8 * k))
	}
	if b, err := Bytes(p); err != nil || len(b) != 20 || !bytes.Equal(b, want) {
		t.Errorf("%x, %v, not %x", b, err, want)
	}
	isGood(t, "the example", p)
}

func TestEachKind(t *testing.T) {
	for _, kind := range kinds {
		c := goodOf(kind)
		isGood(t, "kind "+number(kind), of(c))
		want := raw(1, 2, 0, wantBytes(kind))
		if b, err := Bytes(of(c)); err != nil || !bytes.Equal(b, want) {
			t.Errorf("kind %d: %x, %v, not %x", kind, b, err, want)
		}
		isRead(t, "bytes of kind "+number(kind), want, Read{Packet: of(c)})
		if !isAlone(kind) {
			isGood(t, "behind another one: kind "+number(kind), tagged(9, ack, c))
			isGood(t, "twice: kind "+number(kind), tagged(9, c, c))
		}
	}
}

func TestAllKindsTogether(t *testing.T) {
	var want [][]byte
	for _, c := range mixed() {
		want = append(want, wantBytes(c.Kind))
	}
	p := Packet{From: 0x01020304, To: 0x7ffefdfc, Tag: 0xf1f2f3f4, Chunks: mixed()}
	isGood(t, "together", p)
	if b, err := Bytes(p); err != nil || !bytes.Equal(b, raw(0x01020304, 0x7ffefdfc, 0xf1f2f3f4, want...)) {
		t.Errorf("%x, %v", b, err)
	}
}

func TestAddressesOfAPacket(t *testing.T) {
	for _, a := range []api.Addr{1, 2, 255, 256, 65536, 1 << 24, 1<<31 - 1} {
		isGood(t, "from", Packet{From: a, To: 2, Tag: 3, Chunks: []chunk.Chunk{ack}})
		isGood(t, "to", Packet{From: 2, To: a, Tag: 3, Chunks: []chunk.Chunk{ack}})
		isGood(t, "both", Packet{From: a, To: a, Tag: 3, Chunks: []chunk.Chunk{ack}})
	}
	for _, a := range []api.Addr{0, -1, 1 << 31, 1<<31 + 1, 1<<32 - 1, 1 << 32, 1<<32 + 1, math.MinInt64, math.MinInt64 + 1, math.MaxInt64} {
		isNotGood(t, "from", Packet{From: a, To: 2, Tag: 3, Chunks: []chunk.Chunk{ack}})
		isNotGood(t, "to", Packet{From: 2, To: a, Tag: 3, Chunks: []chunk.Chunk{ack}})
	}
}

func TestTags(t *testing.T) {
	for _, tag := range []uint32{0, 1, 255, 256, 1 << 31, math.MaxUint32} {
		for _, kind := range kinds {
			p := tagged(tag, goodOf(kind))
			if kind == chunk.Init && tag != 0 {
				isNotGood(t, "Init with a tag", p)
				isRefused(t, "Init with a tag", slowBytes(p), api.ErrForm)
			} else {
				isGood(t, "kind "+number(kind)+", tag", p)
			}
		}
	}
}

func TestHowManyChunks(t *testing.T) {
	isNotGood(t, "none", Packet{From: 1, To: 2, Tag: 3})
	isNotGood(t, "none in a list", Packet{From: 1, To: 2, Tag: 3, Chunks: []chunk.Chunk{}})
	for n := 1; n <= 16; n++ {
		isGood(t, number(n)+" chunks", tagged(3, datas(n, 1)...))
	}
	for n := 17; n <= 40; n++ {
		isNotGood(t, number(n)+" chunks", tagged(3, datas(n, 1)...))
		isNotGood(t, number(n)+" chunks", tagged(3, slices.Repeat([]chunk.Chunk{ack}, n)...))
	}
}

func TestChunkThatIsNotGood(t *testing.T) {
	bad := []chunk.Chunk{badData, {Kind: -1}, {Kind: 12}, {Kind: 256 + chunk.CookieAck}, {Kind: chunk.CookieAck, Tag: 1}, {Kind: chunk.Init}, data(1, 65)}
	for k, c := range bad {
		isNotGood(t, "alone: "+number(k), of(c))
		for n := 2; n <= 16; n++ {
			for at := range n {
				list := slices.Repeat([]chunk.Chunk{ack}, n)
				list[at] = c
				isNotGood(t, "at "+number(at)+" of "+number(n)+": "+number(k), of(list...))
			}
		}
	}
}

func TestStandingAlone(t *testing.T) {
	for _, kind := range alone {
		c := goodOf(kind)
		isGood(t, "alone: "+number(kind), of(c))
		for _, other := range kinds {
			o := goodOf(other)
			for k, p := range []Packet{of(c, o), of(o, c), of(ack, o, c), of(c, o, ack), of(ack, c, o), tagged(7, c, o), tagged(7, o, c)} {
				isNotGood(t, number(kind)+" with "+number(other)+", "+number(k), p)
				isRefused(t, number(kind)+" with "+number(other)+", "+number(k), slowBytes(p), api.ErrForm)
			}
		}
		full := append(slices.Repeat([]chunk.Chunk{ack}, 15), c)
		isNotGood(t, "the last of 16: "+number(kind), of(full...))
	}
}

// sized is packets of so many bytes, from 1184 to 1208: one of four chunks, and one of sixteen.
func sized(n int) []Packet {
	left := n - 16 - 3*308
	return []Packet{
		tagged(5, beat(300), beat(300), beat(300), beat(left-8)),
		tagged(5, append(datas(15, 64)[:12], data(13, 56), data(14, 56), data(15, 56), data(16, 56+n-1200))...),
	}
}

func TestHowManyBytes(t *testing.T) {
	for n := 1184; n <= 1200; n += 4 {
		for _, p := range sized(n) {
			isGood(t, number(n)+" bytes", p)
			if b, _ := Bytes(p); len(b) != n {
				t.Errorf("%d bytes, not %d", len(b), n)
			}
		}
	}
	for n := 1204; n <= 1208; n += 4 {
		for _, p := range sized(n) {
			if b, err := Bytes(p); !Good(p) || err != api.ErrLarge || b != nil {
				t.Errorf("%d bytes: %v, %x, %v", n, Good(p), b, err)
			}
			isRefused(t, number(n)+" bytes", slowBytes(p), api.ErrLarge)
		}
	}
	most := of(slices.Repeat([]chunk.Chunk{beat(300)}, 16)...)
	if b, err := Bytes(most); !Good(most) || err != api.ErrLarge || b != nil || Room(most.Chunks...) != 16+16*308 {
		t.Errorf("%v, %x, %v", Good(most), b, err)
	}
}

func TestFirstErrorOfBytes(t *testing.T) {
	long := slices.Repeat([]chunk.Chunk{beat(300)}, 8)
	isNotGood(t, "an address and the length", Packet{To: 2, Chunks: long})
	isNotGood(t, "a chunk and the length", of(append(long, badData)...))
	isNotGood(t, "how many chunks and the length", of(slices.Repeat(long, 3)...))
	isNotGood(t, "one that stands alone and the length", of(append(long, goodOf(chunk.ShutdownComplete))...))
}

// P8.1: Parse.

func TestParseLengths(t *testing.T) {
	isRefused(t, "nil", nil, api.ErrForm)
	for n := range 16 {
		isRefused(t, number(n)+" bytes", make([]byte, n), api.ErrForm)
		isRefused(t, number(n)+" bytes of a packet", raw(1, 2, 3, wantBytes(chunk.CookieAck))[:n], api.ErrForm)
	}
	for _, n := range []int{1201, 1202, 1204, 1216, 5000, 70000} {
		isRefused(t, number(n)+" bytes", make([]byte, n), api.ErrLarge)
		isRefused(t, number(n)+" bytes with a right sum", raw(1, 2, 3, make([]byte, n-16)), api.ErrLarge)
	}
	isRead(t, "no chunk", raw(1, 2, 3), Read{Packet: Packet{From: 1, To: 2, Tag: 3}})
	isRead(t, "no chunk, greatest", raw(1<<31-1, 1<<31-1, math.MaxUint32), Read{Packet: Packet{From: 1<<31 - 1, To: 1<<31 - 1, Tag: math.MaxUint32}})
}

func TestParseSum(t *testing.T) {
	for _, right := range [][]byte{raw(1, 2, 3), raw(1, 2, 3, wantBytes(chunk.Sack))} {
		for at := 12; at < 16; at++ {
			for change := 1; change < 256; change++ {
				b := slices.Clone(right)
				b[at] ^= byte(change)
				isRefused(t, "sum changed at "+number(at), b, api.ErrSum)
			}
		}
		b := slices.Clone(right)
		slices.Reverse(b[12:16])
		isRefused(t, "the high byte first", b, api.ErrSum)
		copy(b[12:16], []byte{0, 0, 0, 0})
		isRefused(t, "noughts", b, api.ErrSum)
		binary.LittleEndian.PutUint32(b[12:], crc32.Checksum(slices.Concat(b[:12], b[16:]), crc32.MakeTable(crc32.Castagnoli)))
		isRefused(t, "without its place", b, api.ErrSum)
	}
}

func TestParseAddresses(t *testing.T) {
	chunks := wantBytes(chunk.CookieAck)
	for _, a := range []uint32{1, 2, 1<<31 - 1} {
		isRead(t, "from", raw(a, 2, 3, chunks), Read{Packet: Packet{From: api.Addr(a), To: 2, Tag: 3, Chunks: []chunk.Chunk{ack}}})
		isRead(t, "to", raw(2, a, 3, chunks), Read{Packet: Packet{From: 2, To: api.Addr(a), Tag: 3, Chunks: []chunk.Chunk{ack}}})
	}
	for _, a := range []uint32{0, 1 << 31, 1<<31 + 1, math.MaxUint32} {
		for _, b := range [][]byte{chunks, nil, {20, 0, 0, 4}, {200, 0, 0, 4}} {
			isRefused(t, "from", raw(a, 2, 3, b), api.ErrForm)
			isRefused(t, "to", raw(2, a, 3, b), api.ErrForm)
			isRefused(t, "both", raw(a, a, 3, b), api.ErrForm)
		}
	}
}

func TestParseChunksThatAreNotWhole(t *testing.T) {
	heads := [][]byte{nil, wantBytes(chunk.CookieAck), {200, 7, 0, 4}}
	for _, kind := range append([]int{20, 64, 0x7f, 0x80, 0x94, 0xc0, 0xd4, 255}, kinds...) {
		whole := []byte{byte(kind), 0, 0, 5, 9, 0, 0, 0}
		if slices.Contains(kinds, kind) {
			whole = wantBytes(kind)
		}
		for _, head := range heads {
			for n := 1; n < len(whole); n++ {
				isRefused(t, "kind "+number(kind)+", "+number(n)+" bytes of it", raw(1, 2, 0, head, whole[:n]), api.ErrForm)
			}
			for n := range 4 {
				isRefused(t, "kind "+number(kind)+", length "+number(n), raw(1, 2, 0, head, []byte{byte(kind), 0, 0, byte(n)}), api.ErrForm)
			}
			isRefused(t, "kind "+number(kind)+", a length that tells too much", raw(1, 2, 0, head, []byte{byte(kind), 0, 255, 255, 1, 2, 3, 4}), api.ErrForm)
		}
	}
}

func TestParsePadding(t *testing.T) {
	for _, kind := range []int{20, 100, 150, 250, chunk.CookieEcho} {
		for size := 5; size <= 8; size++ {
			b := []byte{byte(kind), 0, 0, byte(size), 1, 1, 1, 1}
			clear(b[size:])
			if _, err := Parse(raw(1, 2, 0, b)); err != nil {
				t.Errorf("kind %d, length %d: %v", kind, size, err)
			}
			for at := size; at < 8; at++ {
				b[at] = 1
				isRefused(t, "padding of kind "+number(kind)+" at "+number(at), raw(1, 2, 0, b), api.ErrForm)
				isRefused(t, "padding behind another one", raw(1, 2, 0, wantBytes(chunk.CookieAck), b), api.ErrForm)
				b[at] = 0
			}
		}
	}
}

func TestParseKnownKindsThatAreNotGood(t *testing.T) {
	passed := []byte{200, 0, 0, 4}
	for _, kind := range kinds {
		wrong := wantBytes(kind)
		wrong[1] = 8 // a flag that no kind has
		isRefused(t, "flags of kind "+number(kind), raw(1, 2, 0, wrong), api.ErrForm)
		isRefused(t, "ahead of one", raw(1, 2, 0, wrong, wantBytes(chunk.CookieAck)), api.ErrForm)
		isRefused(t, "behind one", raw(1, 2, 0, wantBytes(chunk.CookieAck), wrong), api.ErrForm)
		isRefused(t, "behind one that is passed over", raw(1, 2, 0, passed, wrong), api.ErrForm)
	}
	isRefused(t, "a piece without a text", raw(1, 2, 0, []byte{0, 3, 0, 12, 0, 0, 0, 0, 0, 0, 0, 0}), api.ErrForm)
	isRefused(t, "CookieAck with a value", raw(1, 2, 0, []byte{11, 0, 0, 8, 0, 0, 0, 0}), api.ErrForm)
	isRefused(t, "an Auth that is too short", raw(1, 2, 0, append([]byte{15, 0, 0, 35}, make([]byte, 32)...)), api.ErrForm)
}

// unknownOf is a whole chunk of a kind that there isn't.
func unknownOf(kind int) []byte {
	return []byte{byte(kind), 0xff, 0, 7, 3, 2, 1, 0}
}

func TestParseKindsThatAreNotKnown(t *testing.T) {
	a, s, k := goodOf(chunk.Abort), goodOf(chunk.Shutdown), goodOf(chunk.CookieEcho)
	ab, sb, kb := wantBytes(chunk.Abort), wantBytes(chunk.Shutdown), wantBytes(chunk.CookieEcho)
	for kind := range 256 {
		if slices.Contains(kinds, kind) {
			continue
		}
		what, u := "kind "+number(kind), unknownOf(kind)
		var told []int
		if kind >= 64 && kind < 128 || kind >= 192 {
			told = []int{kind}
		}
		stopped := kind < 128
		behind := func(list ...chunk.Chunk) Packet { // what is read where these stand behind it
			if stopped {
				return tagged(3)
			}
			return tagged(3, list...)
		}
		isRead(t, what+" alone", raw(1, 2, 3, u), Read{tagged(3), told, stopped})
		isRead(t, what+" ahead", raw(1, 2, 3, u, ab, sb), Read{behind(a, s), told, stopped})
		between := tagged(3, a)
		between.Chunks = append(between.Chunks, behind(s, k).Chunks...)
		isRead(t, what+" between", raw(1, 2, 3, ab, u, sb, kb), Read{between, told, stopped})
		isRead(t, what+" behind", raw(1, 2, 3, ab, sb, u), Read{tagged(3, a, s), told, stopped})
		if stopped {
			isRead(t, what+" ahead of what isn't whole", raw(1, 2, 3, ab, u, []byte{11}), Read{tagged(3, a), told, true})
			isRead(t, what+" ahead of what isn't good", raw(1, 2, 3, ab, u, []byte{11, 1, 0, 4}), Read{tagged(3, a), told, true})
			isRead(t, what+" ahead of what may not be there", raw(1, 2, 3, ab, u, wantBytes(chunk.Init)), Read{tagged(3, a), told, true})
			isRead(t, what+" ahead of one that is reported", raw(1, 2, 3, u, unknownOf(200)), Read{tagged(3), told, true})
		} else {
			isRefused(t, what+" ahead of what isn't whole", raw(1, 2, 3, ab, u, []byte{11}), api.ErrForm)
			isRefused(t, what+" ahead of what isn't good", raw(1, 2, 3, ab, u, []byte{11, 1, 0, 4}), api.ErrForm)
		}
	}
}

func TestParseSeveralThatAreNotKnown(t *testing.T) {
	a := goodOf(chunk.Abort)
	ab := wantBytes(chunk.Abort)
	u := unknownOf
	isRead(t, "in order, each time", raw(1, 2, 3, u(250), u(200), ab, u(130), u(250), u(192)),
		Read{tagged(3, a), []int{250, 200, 250, 192}, false})
	isRead(t, "till one stops", raw(1, 2, 3, u(250), u(70), u(200), ab), Read{tagged(3), []int{250, 70}, true})
	isRead(t, "till one stops that isn't reported", raw(1, 2, 3, ab, u(250), u(30), u(200), ab), Read{tagged(3, a), []int{250}, true})
	isRead(t, "the least chunks, as many as may be", raw(1, 2, 3, bytes.Repeat([]byte{255, 0, 0, 4}, 296)),
		Read{tagged(3), slices.Repeat([]int{255}, 296), false})
	for n := 1; n < 200; n++ {
		isRead(t, "one whose value has "+number(n)+" bytes", raw(1, 2, 3, append([]byte{254, 0, 0, byte(n + 4)}, make([]byte, (n+3)/4*4)...), ab),
			Read{tagged(3, a), []int{254}, false})
	}
}

func TestParseHowManyKnown(t *testing.T) {
	one := wantBytes(chunk.CookieAck)
	others := [][]byte{nil, unknownOf(200), unknownOf(130), bytes.Repeat(unknownOf(192), 5)}
	for n := 1; n <= 20; n++ {
		for at := range n + 1 {
			for k, other := range others {
				b := raw(1, 2, 3, bytes.Repeat(one, at), other, bytes.Repeat(one, n-at))
				if n <= 16 {
					r, err := Parse(b)
					if err != nil || len(r.Packet.Chunks) != n || len(r.Unknown) != []int{0, 1, 0, 5}[k] || r.Stopped {
						t.Errorf("%d known ones, others at %d: %v, %v", n, at, r, err)
					}
				} else {
					isRefused(t, number(n)+" known ones", b, api.ErrForm)
				}
			}
			if r, err := Parse(raw(1, 2, 3, bytes.Repeat(one, at), unknownOf(20), bytes.Repeat(one, n-at))); at <= 16 && (err != nil || len(r.Packet.Chunks) != at || !r.Stopped) {
				t.Errorf("%d ahead of one that stops: %v, %v", at, r, err)
			}
		}
	}
	isRefused(t, "17 ahead of one that stops", raw(1, 2, 3, bytes.Repeat(one, 17), unknownOf(20)), api.ErrForm)
}

func TestParseStandingAlone(t *testing.T) {
	for _, kind := range alone {
		b, p := wantBytes(kind), of(goodOf(kind))
		isRead(t, "behind one that isn't known", raw(1, 2, 0, unknownOf(200), b), Read{p, []int{200}, false})
		isRead(t, "ahead of one that isn't known", raw(1, 2, 0, b, unknownOf(70)), Read{p, []int{70}, true})
		isRead(t, "ahead of one that stops, and another one", raw(1, 2, 0, b, unknownOf(20), b), Read{p, nil, true})
		isRead(t, "behind one that stops", raw(1, 2, 9, unknownOf(20), b, b), Read{tagged(9), nil, true})
		for _, other := range kinds {
			isRefused(t, number(kind)+" ahead of one that is passed over, and "+number(other), raw(1, 2, 0, b, unknownOf(200), wantBytes(other)), api.ErrForm)
			isRefused(t, number(kind)+" behind "+number(other)+" and one that is passed over", raw(1, 2, 0, wantBytes(other), unknownOf(200), b), api.ErrForm)
		}
	}
	isRefused(t, "Init with a tag, and one that isn't known", raw(1, 2, 1, wantBytes(chunk.Init), unknownOf(200)), api.ErrForm)
}

func TestFirstErrorOfParse(t *testing.T) {
	isRefused(t, "the length, the sum and the rest", make([]byte, 1201), api.ErrLarge)
	isRefused(t, "too short, the sum and the rest", make([]byte, 12), api.ErrForm)
	for _, b := range [][]byte{raw(0, 2, 3), raw(1, 1<<31, 3), raw(1, 2, 3, []byte{1}), raw(1, 2, 3, []byte{11, 1, 0, 4}),
		raw(1, 2, 3, bytes.Repeat(wantBytes(chunk.CookieAck), 17)), raw(1, 2, 3, wantBytes(chunk.Init)), make([]byte, 1200)} {
		b[12]++
		isRefused(t, "the sum and the rest", b, api.ErrSum)
	}
}

// randomPart is bytes that may stand in a packet, right or wrong.
func randomPart(r *rand.Rand) []byte {
	switch r.Intn(12) {
	case 0, 1:
		return unknownOf(128 + r.Intn(128))
	case 2:
		b := append([]byte{byte(r.Intn(256)), byte(r.Intn(2)), 0, byte(r.Intn(40))}, make([]byte, 4*r.Intn(10))...)
		return b
	case 3:
		return unknownOf(r.Intn(256))
	case 4:
		b := wantBytes(kinds[r.Intn(len(kinds))])
		b[r.Intn(len(b))] ^= 1 << r.Intn(8)
		return b
	case 5:
		return wantBytes(alone[r.Intn(len(alone))])
	}
	for {
		if kind := kinds[r.Intn(len(kinds))]; !isAlone(kind) {
			return wantBytes(kind)
		}
	}
}

func TestParseAnything(t *testing.T) {
	r := rand.New(rand.NewSource(8))
	reads, tells := 0, map[error]int{}
	for range 40000 {
		var parts [][]byte
		for range r.Intn([]int{3, 8, 24}[r.Intn(3)]) {
			parts = append(parts, randomPart(r))
		}
		tag := uint32(r.Intn(2) * r.Intn(1<<32))
		b := raw(1+uint32(r.Intn(1<<31-1)), 1+uint32(r.Intn(1<<31-1)), tag, parts...)
		switch r.Intn(30) {
		case 0:
			b[r.Intn(len(b))] ^= 1 << r.Intn(8)
		case 1:
			b[4*r.Intn(2)] ^= 128
			summed(b)
		case 2:
			b = summed(b[:16+r.Intn(len(b)-15)])
		}
		err := isReadAsTold(t, "anything", b)
		tells[err]++
		if err == nil {
			reads++
		}
	}
	if reads < 5000 || tells[api.ErrForm] < 5000 || tells[api.ErrSum] < 500 {
		t.Errorf("the draw isn't of use: %v", tells)
	}
}

// P8.2.

func TestGoodPacketsThereAndBack(t *testing.T) {
	r := rand.New(rand.NewSource(82))
	for range 4000 {
		var list []chunk.Chunk
		for range 1 + r.Intn(16) {
			kind := kinds[r.Intn(len(kinds))]
			if !isAlone(kind) {
				list = append(list, goodOf(kind))
			}
		}
		if len(list) == 0 {
			list = append(list, goodOf(alone[r.Intn(len(alone))]))
		}
		p := Packet{From: api.Addr(1 + r.Intn(1<<31-1)), To: api.Addr(1 + r.Intn(1<<31-1)), Chunks: list}
		if list[0].Kind != chunk.Init {
			p.Tag = r.Uint32()
		}
		isGood(t, "there and back", p)
	}
}

// turn turns a bit.
func turn(b []byte, bit int) {
	b[bit/8] ^= 1 << (bit % 8)
}

func TestTurnedBitsOfAShortPacket(t *testing.T) {
	b, err := Bytes(tagged(3, ack))
	if err != nil {
		t.Fatal(err)
	}
	all := 8 * len(b)
	refused := func(bits ...int) {
		if r, err := Parse(b); err != api.ErrSum || !isZero(r) {
			t.Errorf("turned %v: %v, %v", bits, r, err)
		}
	}
	for x := range all {
		turn(b, x)
		refused(x)
		for y := range x {
			turn(b, y)
			refused(x, y)
			for z := range y {
				turn(b, z)
				refused(x, y, z)
				turn(b, z)
			}
			turn(b, y)
		}
		turn(b, x)
	}
}

func TestTurnedBitsOfEachKind(t *testing.T) {
	r := rand.New(rand.NewSource(3))
	packets := []Packet{sized(1200)[0], sized(1200)[1]}
	for _, kind := range kinds {
		packets = append(packets, of(goodOf(kind)))
	}
	for _, p := range packets {
		right, err := Bytes(p)
		if err != nil {
			t.Fatal(err)
		}
		b := slices.Clone(right)
		for bit := range 8 * len(b) {
			turn(b, bit)
			isRefused(t, "one bit turned", b, api.ErrSum)
			turn(b, bit)
		}
		for range 1000 {
			for _, bit := range r.Perm(8 * len(b))[:2+r.Intn(2)] {
				turn(b, bit)
			}
			isRefused(t, "two or three bits turned", b, api.ErrSum)
			copy(b, right)
		}
	}
}

// Of the longest packet there are too many threes of bits to try them all.
// What each bit makes of the sum that is told and the one that is right is
// never the same, and has an odd number of bits: so neither two nor three of
// them come to nothing together.
func TestTurnedBitsOfTheLongestPacket(t *testing.T) {
	b, err := Bytes(sized(1200)[0])
	if err != nil || len(b) != 1200 {
		t.Fatal(len(b), err)
	}
	differs := func() uint32 {
		return binary.LittleEndian.Uint32(b[12:]) ^ binary.LittleEndian.Uint32(summed(slices.Clone(b))[12:])
	}
	if differs() != 0 {
		t.Fatal("the sum isn't right")
	}
	seen := map[uint32]bool{}
	for bit := range 8 * len(b) {
		turn(b, bit)
		d := differs()
		if seen[d] || bits.OnesCount32(d)%2 == 0 {
			t.Errorf("bit %d: %x", bit, d)
		}
		seen[d] = true
		turn(b, bit)
	}
}

// P8.1 and P8.3: Room and Bundle.

func TestRoom(t *testing.T) {
	if Room() != 16 || Room([]chunk.Chunk{}...) != 16 {
		t.Errorf("none: %d", Room())
	}
	sum := 16
	var list []chunk.Chunk
	for _, kind := range kinds {
		c := goodOf(kind)
		if n := Room(c); n != 16+len(wantBytes(kind)) {
			t.Errorf("kind %d: %d", kind, n)
		}
		sum += len(wantBytes(kind))
		list = append(list, c)
	}
	if n := Room(list...); n != sum {
		t.Errorf("all: %d, not %d", n, sum)
	}
	for text := 1; text <= 64; text++ {
		if n := Room(data(1, text), ack); n != 16+12+(text+3)/4*4+4 {
			t.Errorf("a text of %d bytes: %d", text, n)
		}
	}
	if n := Room(datas(1000, 64)...); n != 16+76000 {
		t.Errorf("1000: %d", n)
	}
	for _, bad := range []chunk.Chunk{badData, {Kind: -1}, {Kind: 12}, {Kind: 267}, data(1, 65), {Kind: chunk.CookieAck, OK: true}} {
		if Room(bad) != 16 || Room(bad, ack) != 20 || Room(ack, bad) != 20 || Room(bad, ack, bad, ack) != 24 {
			t.Errorf("not good: %v: %d", bad, Room(bad))
		}
	}
}

// sizesOf is how many chunks are in each packet.
func sizesOf(packets [][]chunk.Chunk) []int {
	var sizes []int
	for _, p := range packets {
		sizes = append(sizes, len(p))
	}
	return sizes
}

// isBundled tells of chunks that don't come into packets as told.
func isBundled(t *testing.T, what string, list []chunk.Chunk, sizes ...int) {
	t.Helper()
	got, want := Bundle(list...), slowBundle(list)
	equal := func(a, b []chunk.Chunk) bool { return slices.EqualFunc(a, b, chunk.Same) }
	if !slices.EqualFunc(got, want, equal) {
		t.Errorf("%s: %v, not %v", what, sizesOf(got), sizesOf(want))
	}
	if sizes != nil && !slices.Equal(sizesOf(got), sizes) {
		t.Errorf("%s: %v, not %v", what, sizesOf(got), sizes)
	}
	var good []chunk.Chunk
	for _, c := range list {
		if chunk.Good(c) {
			good = append(good, c)
		}
	}
	if !equal(slices.Concat(got...), good) {
		t.Errorf("%s: not all good ones in order", what)
	}
	for _, chunks := range got {
		if b, err := Bytes(of(chunks...)); err != nil || len(b) > 1200 {
			t.Errorf("%s: a packet of %d: %v", what, len(chunks), err)
		}
	}
}

func TestBundleOfNone(t *testing.T) {
	if l := Bundle(); len(l) != 0 {
		t.Errorf("%v", l)
	}
	if l := Bundle(badData, chunk.Chunk{Kind: 12}, badData); len(l) != 0 {
		t.Errorf("%v", l)
	}
}

func TestBundleByHowMany(t *testing.T) {
	for n := 1; n <= 50; n++ {
		want := slices.Repeat([]int{16}, n/16)
		if n%16 > 0 {
			want = append(want, n%16)
		}
		isBundled(t, number(n)+" chunks", slices.Repeat([]chunk.Chunk{ack}, n), want...)
		isBundled(t, number(n)+" pieces", datas(n, 1), want...)
	}
}

func TestBundleByBytes(t *testing.T) {
	for n := 1184; n <= 1208; n += 4 {
		for k, p := range sized(n) {
			all := len(p.Chunks)
			if n <= 1200 {
				isBundled(t, number(n)+" bytes", p.Chunks, all)
			} else {
				isBundled(t, number(n)+" bytes", p.Chunks, all-1, 1)
			}
			if n == 1200 && k == 0 {
				isBundled(t, "and one more", append(slices.Clone(p.Chunks), ack), all, 1)
			}
			if n == 1196 && k == 0 {
				isBundled(t, "and one that fits", append(slices.Clone(p.Chunks), ack, ack), all+1, 1)
			}
		}
	}
	isBundled(t, "the longest ones", slices.Repeat([]chunk.Chunk{beat(300)}, 10), 3, 3, 3, 1)
	isBundled(t, "a short one doesn't go back", []chunk.Chunk{beat(300), beat(300), beat(300), beat(300), ack, ack}, 3, 3)
	isBundled(t, "a short one doesn't go back behind a full one", []chunk.Chunk{beat(300), beat(300), beat(300), beat(253), beat(300), beat(300), ack}, 3, 3+1)
}

func TestBundleThoseThatStandAlone(t *testing.T) {
	for _, kind := range alone {
		c := goodOf(kind)
		isBundled(t, "alone", []chunk.Chunk{c}, 1)
		isBundled(t, "twice", []chunk.Chunk{c, c}, 1, 1)
		isBundled(t, "ahead", []chunk.Chunk{c, ack, ack}, 1, 2)
		isBundled(t, "behind", []chunk.Chunk{ack, ack, c}, 2, 1)
		isBundled(t, "between", []chunk.Chunk{ack, ack, c, ack}, 2, 1, 1)
		isBundled(t, "ahead of one that isn't good", []chunk.Chunk{c, badData, ack}, 1, 1)
		for _, other := range kinds {
			isBundled(t, number(kind)+" and "+number(other), []chunk.Chunk{c, goodOf(other), c, ack, c, goodOf(other)}, 1, 1, 1, 1, 1, 1)
		}
	}
	isBundled(t, "not good, so it doesn't part", []chunk.Chunk{ack, {Kind: chunk.Init}, ack}, 2)
}

func TestBundleLeavesOut(t *testing.T) {
	isBundled(t, "ahead, between and behind", []chunk.Chunk{badData, ack, badData, {Kind: 12}, ack, badData}, 2)
	isBundled(t, "only good ones are counted", slices.Repeat([]chunk.Chunk{ack, badData, data(1, 65)}, 20), 16, 4)
}

func TestBundleAnything(t *testing.T) {
	r := rand.New(rand.NewSource(83))
	for range 1500 {
		var list []chunk.Chunk
		for range r.Intn(60) {
			switch r.Intn(8) {
			case 0:
				list = append(list, goodOf(kinds[r.Intn(len(kinds))]))
			case 1:
				list = append(list, beat(r.Intn(302)))
			case 2:
				list = append(list, chunk.Chunk{Kind: r.Intn(20)})
			default:
				list = append(list, data(r.Intn(100), r.Intn(66)))
			}
		}
		isBundled(t, "anything", list)
	}
}

// P8.1: Same and Copy.

// changes is ways in which a packet may differ, each by itself.
func changes() []func(*Packet) {
	return []func(*Packet){
		func(p *Packet) { p.From++ },
		func(p *Packet) { p.From += 1 << 32 },
		func(p *Packet) { p.To++ },
		func(p *Packet) { p.To -= 1 << 40 },
		func(p *Packet) { p.Tag++ },
		func(p *Packet) { p.Tag ^= 1 << 31 },
		func(p *Packet) { p.From, p.To = p.To, p.From },
		func(p *Packet) { p.Chunks = nil },
		func(p *Packet) { p.Chunks = p.Chunks[:len(p.Chunks)-1] },
		func(p *Packet) { p.Chunks = p.Chunks[1:] },
		func(p *Packet) { p.Chunks = append(p.Chunks, ack) },
		func(p *Packet) { p.Chunks = append(p.Chunks, chunk.Chunk{}) },
		func(p *Packet) { p.Chunks[0], p.Chunks[1] = p.Chunks[1], p.Chunks[0] },
		func(p *Packet) { p.Chunks[0].Kind++ },
		func(p *Packet) { p.Chunks[0].Piece.Text[4]++ },
		func(p *Packet) { p.Chunks[0].Piece.TSN++ },
		func(p *Packet) { p.Chunks[1].Gaps[1].To++ },
		func(p *Packet) { p.Chunks[1].Dups = p.Chunks[1].Dups[:2] },
		func(p *Packet) { p.Chunks[2].Ops[2].Addr++ },
		func(p *Packet) { p.Chunks[2].Serial++ },
		func(p *Packet) { p.Chunks[3].OK = false },
	}
}

// some is a packet in memory of its own, of which a lot is set.
func some() Packet {
	return tagged(3, goodOf(chunk.Data), goodOf(chunk.Sack), goodOf(chunk.Asconf), goodOf(chunk.AsconfAck))
}

func TestSame(t *testing.T) {
	if !Same(some(), some()) || !Same(Packet{}, Packet{}) {
		t.Error("not the same")
	}
	for k, change := range changes() {
		a, b := some(), some()
		change(&b)
		if Same(a, b) || Same(b, a) {
			t.Errorf("change %d: the same", k)
		}
		change(&a)
		if !Same(a, b) {
			t.Errorf("change %d of both: not the same", k)
		}
	}
	a, b := Packet{From: 1}, Packet{From: 1, Chunks: []chunk.Chunk{}}
	if !Same(a, b) || !Same(b, a) {
		t.Error("nil and empty chunks differ")
	}
	a, b = of(ack), of(chunk.Chunk{Kind: chunk.CookieAck, Info: []byte{}, Ops: []chunk.Op{}, Piece: api.Piece{Text: []byte{}}})
	if !Same(a, b) || !Same(b, a) {
		t.Error("nil and empty lists of a chunk differ")
	}
}

func TestCopy(t *testing.T) {
	list := []Packet{{}, {Chunks: []chunk.Chunk{}}, some(), of(badData), {From: -1, To: math.MaxInt64, Tag: 9, Chunks: datas(40, 70)}}
	for _, change := range changes() {
		p := some()
		change(&p)
		list = append(list, p)
	}
	for k, p := range list {
		if c := Copy(p); !Same(c, p) || c.From != p.From || c.To != p.To || c.Tag != p.Tag || len(c.Chunks) != len(p.Chunks) {
			t.Errorf("%d: %v", k, c)
		}
	}
}

// P8.4.

// spoil changes all that lies in chunks' lists, also in the room behind them.
func spoil(list []chunk.Chunk) {
	for k := range list {
		c := &list[k]
		spoilList(c.Piece.Text, 0xee)
		spoilList(c.Random, 0xee)
		spoilList(c.Addrs, 77)
		spoilList(c.Info, 0xee)
		spoilList(c.Gaps, chunk.Gap{From: 77, To: 78})
		spoilList(c.Dups, 77)
		spoilList(c.Ops, chunk.Op{Kind: chunk.Delete, Addr: 77})
	}
	spoilList(list, chunk.Chunk{Kind: chunk.Shutdown, TSN: 0xeeee})
}

func spoilList[T any](list []T, with T) {
	list = list[:cap(list)]
	for k := range list {
		list[k] = with
	}
}

// roomy is the same list with room behind it, in which something stands.
func roomy[T any](list []T, behind T) []T {
	if list == nil {
		return nil
	}
	long := append(slices.Clone(list), behind, behind, behind)
	return long[:len(list)]
}

// roomyChunks is the same chunks, all whose lists have room behind.
func roomyChunks(list []chunk.Chunk) []chunk.Chunk {
	list = roomy(list, chunk.Chunk{Kind: 99})
	for k := range list {
		c := &list[k]
		c.Piece.Text = roomy(c.Piece.Text, 99)
		c.Random = roomy(c.Random, 99)
		c.Addrs = roomy(c.Addrs, 99)
		c.Info = roomy(c.Info, 99)
		c.Gaps = roomy(c.Gaps, chunk.Gap{From: 99})
		c.Dups = roomy(c.Dups, 99)
		c.Ops = roomy(c.Ops, chunk.Op{Kind: 99})
	}
	return list
}

// whole is a list with the room behind it.
func whole[T any](list []T) []T { return list[:cap(list)] }

// wholeChunks is chunks with the room behind them, and behind all their lists.
func wholeChunks(list []chunk.Chunk) []chunk.Chunk {
	list = slices.Clone(whole(list))
	for k := range list {
		c := &list[k]
		c.Piece.Text, c.Random, c.Addrs, c.Info = whole(c.Piece.Text), whole(c.Random), whole(c.Addrs), whole(c.Info)
		c.Gaps, c.Dups, c.Ops = whole(c.Gaps), whole(c.Dups), whole(c.Ops)
	}
	return list
}

// frozen is a copy, by this test's own means, of chunks, and of the room behind their lists.
func frozen(list []chunk.Chunk) []chunk.Chunk {
	list = wholeChunks(list)
	for k := range list {
		c := &list[k]
		c.Piece.Text, c.Random, c.Addrs, c.Info = slices.Clone(c.Piece.Text), slices.Clone(c.Random), slices.Clone(c.Addrs), slices.Clone(c.Info)
		c.Gaps, c.Dups, c.Ops = slices.Clone(c.Gaps), slices.Clone(c.Dups), slices.Clone(c.Ops)
	}
	return list
}

// mixed is chunks of all kinds that may stand together, in memory of their own.
func mixed() []chunk.Chunk {
	var list []chunk.Chunk
	for _, kind := range kinds {
		if !isAlone(kind) {
			list = append(list, goodOf(kind))
		}
	}
	return list
}

func TestHandedInIsNotChanged(t *testing.T) {
	all := append(mixed(), goodOf(chunk.Init), goodOf(chunk.InitAck), badData, ack, ack)
	for k, list := range [][]chunk.Chunk{mixed(), all, {goodOf(chunk.Init)}, {goodOf(chunk.InitAck)}, {}} {
		list = roomyChunks(list)
		before := frozen(list)
		p := tagged(0, list...)
		Good(p)
		Bytes(p)
		Room(list...)
		Bundle(list...)
		Same(p, p)
		Copy(p)
		if !slices.EqualFunc(before, wholeChunks(list), chunk.Same) {
			t.Errorf("%d: changed: %v", k, wholeChunks(list))
		}
	}
	parts := [][]byte{raw(1, 2, 3, wantBytes(chunk.Sack), unknownOf(200), wantBytes(chunk.Data)), raw(1, 2, 3), {1, 2, 3}, make([]byte, 1300), raw(1, 2, 3, []byte{1})}
	for k, b := range parts {
		b = roomy(b, 99)
		before := slices.Clone(whole(b))
		Parse(b)
		if !bytes.Equal(before, whole(b)) {
			t.Errorf("bytes %d: changed", k)
		}
	}
}

func TestHandedInIsNotKept(t *testing.T) {
	list := roomyChunks(mixed())
	p := tagged(3, list...)
	want := tagged(3, mixed()...)
	wantB, _ := Bytes(want)
	b, err := Bytes(p)
	bundled, copied := Bundle(list...), Copy(p)
	handed := slices.Clone(b)
	read, readErr := Parse(handed)
	spoil(list)
	spoilList(handed, 0xee)
	if err != nil || readErr != nil || !bytes.Equal(b, wantB) {
		t.Errorf("Bytes: %x, %v, %v", b, err, readErr)
	}
	if len(bundled) != 1 || !slices.EqualFunc(bundled[0], want.Chunks, chunk.Same) {
		t.Errorf("Bundle: %v", bundled)
	}
	if !Same(copied, want) {
		t.Errorf("Copy: %v", copied)
	}
	if !Same(read.Packet, want) {
		t.Errorf("Parse: %v", read)
	}
}

func TestAnswersAreNewMemory(t *testing.T) {
	p := tagged(3, mixed()...)
	before := tagged(3, mixed()...)
	right, _ := Bytes(p)
	right = roomy(right, 7)
	unspoilt := slices.Clone(whole(right))
	for range 2 {
		b, err := Bytes(p)
		if err != nil || !bytes.Equal(b, right) {
			t.Errorf("Bytes: %x, %v", b, err)
		}
		spoilList(b, 0xee)
		r, err := Parse(right)
		if err != nil || !Same(r.Packet, before) {
			t.Errorf("Parse: %v, %v", r, err)
		}
		spoil(r.Packet.Chunks)
		c := Copy(p)
		if !Same(c, before) {
			t.Errorf("Copy: %v", c)
		}
		spoil(c.Chunks)
		l := Bundle(p.Chunks...)
		if len(l) != 1 || !slices.EqualFunc(l[0], before.Chunks, chunk.Same) {
			t.Errorf("Bundle: %v", l)
		}
		spoil(l[0])
		spoilList(l, nil)
		if !Same(p, before) || !bytes.Equal(unspoilt, whole(right)) {
			t.Error("what was handed in changed with an answer")
		}
	}
}

// Each packet of a bundle, each chunk in it and each of their lists is memory by itself.
func TestAnswersShareNothing(t *testing.T) {
	chunks := append(slices.Repeat(mixed(), 4), goodOf(chunk.Init), goodOf(chunk.InitAck))
	answers := []func() [][]chunk.Chunk{
		func() [][]chunk.Chunk { return Bundle(chunks...) },
		func() [][]chunk.Chunk { return [][]chunk.Chunk{Copy(tagged(3, chunks...)).Chunks} },
		func() [][]chunk.Chunk {
			r, _ := Parse(slowBytes(tagged(3, mixed()...)))
			return [][]chunk.Chunk{r.Packet.Chunks}
		},
	}
	for n, answer := range answers {
		want := answer()
		for k := range want {
			got := answer()
			spoil(got[k])
			for other := range got {
				if other != k && !slices.EqualFunc(got[other], want[other], chunk.Same) {
					t.Errorf("answer %d: packet %d changed with packet %d", n, other, k)
				}
			}
			for one := range got[k] {
				got := answer()
				spoil(got[k][one : one+1 : one+1])
				for other := range got[k] {
					if other != one && !chunk.Same(got[k][other], want[k][other]) {
						t.Errorf("answer %d, packet %d: chunk %d changed with chunk %d", n, k, other, one)
					}
				}
			}
		}
	}
}

func TestUnknownIsNewMemory(t *testing.T) {
	b := raw(1, 2, 3, unknownOf(200), unknownOf(201), unknownOf(70))
	first, _ := Parse(b)
	spoilList(first.Unknown, 5)
	isRead(t, "again", b, Read{tagged(3), []int{200, 201, 70}, true})
}

// All calls serve several at once, of the same things.
func TestSeveralAtOnce(t *testing.T) {
	p := some()
	b, _ := Bytes(p)
	var group sync.WaitGroup
	for range 8 {
		group.Go(func() {
			for range 50 {
				got, err := Bytes(p)
				if err != nil || !bytes.Equal(got, b) || !Good(p) || Room(p.Chunks...) != len(b) {
					t.Errorf("%x, %v", got, err)
				}
				if r, err := Parse(b); err != nil || !Same(r.Packet, Copy(p)) {
					t.Errorf("%v, %v", r, err)
				}
				if l := Bundle(p.Chunks...); len(l) != 1 || len(l[0]) != 4 {
					t.Errorf("%v", l)
				}
			}
		})
	}
	group.Wait()
}
