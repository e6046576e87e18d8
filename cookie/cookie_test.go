package cookie

import (
	"bytes"
	"crypto/hmac"
	"crypto/sha256"
	"encoding/binary"
	"encoding/hex"
	"math"
	"math/rand"
	"slices"
	"strconv"
	"strings"
	"testing"

	"weftline/api"
	"weftline/chunk"
)

var secret = []byte("a host's secret")

// plain is a good cookie in which all is set, and each number is another one.
func plain() Cookie {
	return Cookie{
		Made: 0x0102030405060708, Life: 0x11121314,
		Mine: 0x21222324, Peers: 0x31323334,
		MyTSN: 0x41424344, PeerTSN: 0x51525354,
		Window: 0x61626364, Out: 7, In: 6,
		Addrs:    []api.Addr{0x71727374, 9},
		MyRandom: []byte{0x81, 0x82, 0x83}, PeerRandom: []byte{0x91, 0x92},
		TieMine: 0xa1a2a3a4, TiePeer: 0xb1b2b3b4,
	}
}

// plainBody is plain's bytes ahead of the seal, written out by the chapter's words.
const plainBody = "0102030405060708" + "0000000011121314" + "21222324" + "31323334" + "41424344" + "51525354" + "61626364" +
	"07" + "06" + "02" + "71727374" + "00000009" + "03" + "818283" + "02" + "9192" + "a1a2a3a4" + "b1b2b3b4"

// least is a good cookie whose lists are as short, and whose numbers as small, as may be.
func least() Cookie {
	return Cookie{Life: 1, Mine: 1, Peers: 1, Out: 1, In: 1, Addrs: []api.Addr{1}, MyRandom: []byte{0}, PeerRandom: []byte{0}}
}

// most is a good cookie whose lists are as long, and whose numbers as great, as may be.
func most() Cookie {
	a := api.Addr(math.MaxInt32)
	return Cookie{
		Made: 1 << 62, Life: 1 << 31,
		Mine: math.MaxUint32, Peers: math.MaxUint32,
		MyTSN: math.MaxUint32, PeerTSN: math.MaxUint32,
		Window: math.MaxInt32, Out: 8, In: 8,
		Addrs:    []api.Addr{a, a, a, a},
		MyRandom: bytes.Repeat([]byte{255}, 64), PeerRandom: bytes.Repeat([]byte{255}, 64),
		TieMine: math.MaxUint32, TiePeer: math.MaxUint32,
	}
}

// with is plain with a change.
func with(change func(c *Cookie)) Cookie {
	c := plain()
	change(&c)
	return c
}

// slowSeal is HMAC-SHA256 by the library.
func slowSeal(key, body []byte) []byte {
	h := hmac.New(sha256.New, key)
	h.Write(body)
	return h.Sum(nil)
}

// sealed is a text with the right seal behind it, whatever the text is.
func sealed(key, body []byte) []byte {
	return append(slices.Clone(body), slowSeal(key, body)...)
}

// slowBody is the bytes ahead of the seal, of a cookie good or not, by the chapter's words.
func slowBody(c Cookie) []byte {
	b := binary.BigEndian.AppendUint64(nil, uint64(c.Made))
	b = binary.BigEndian.AppendUint64(b, uint64(c.Life))
	for _, n := range []uint32{c.Mine, c.Peers, c.MyTSN, c.PeerTSN, uint32(c.Window)} {
		b = binary.BigEndian.AppendUint32(b, n)
	}
	b = append(b, byte(c.Out), byte(c.In), byte(len(c.Addrs)))
	for _, a := range c.Addrs {
		b = binary.BigEndian.AppendUint32(b, uint32(a))
	}
	b = append(append(b, byte(len(c.MyRandom))), c.MyRandom...)
	b = append(append(b, byte(len(c.PeerRandom))), c.PeerRandom...)
	b = binary.BigEndian.AppendUint32(b, c.TieMine)
	return binary.BigEndian.AppendUint32(b, c.TiePeer)
}

// slowGood tells whether a cookie is good, by the chapter's words.
func slowGood(c Cookie) bool {
	good := c.Made >= 0 && c.Made <= 4611686018427387904 && c.Life >= 1 && c.Life <= 2147483648
	good = good && c.Mine != 0 && c.Peers != 0 && c.Window >= 0 && c.Window <= 2147483647
	good = good && c.Out >= 1 && c.Out <= 8 && c.In >= 1 && c.In <= 8
	good = good && len(c.Addrs) >= 1 && len(c.Addrs) <= 4
	for _, a := range c.Addrs {
		good = good && a >= 1 && a <= 2147483647
	}
	good = good && len(c.MyRandom) >= 1 && len(c.MyRandom) <= 64
	return good && len(c.PeerRandom) >= 1 && len(c.PeerRandom) <= 64
}

// slowRead is what the bytes ahead of the seal say, and whether they are just a cookie's.
func slowRead(b []byte) (c Cookie, whole bool) {
	const head = 16 + 20 + 2
	if len(b) <= head {
		return Cookie{}, false
	}
	c.Made, c.Life = int(binary.BigEndian.Uint64(b)), int(binary.BigEndian.Uint64(b[8:]))
	for k, n := range []*uint32{&c.Mine, &c.Peers, &c.MyTSN, &c.PeerTSN} {
		*n = binary.BigEndian.Uint32(b[16+4*k:])
	}
	c.Window = int(binary.BigEndian.Uint32(b[32:]))
	c.Out, c.In = int(b[36]), int(b[37])
	count, b := int(b[head]), b[head+1:]
	if len(b) < 4*count {
		return Cookie{}, false
	}
	for k := range count {
		c.Addrs = append(c.Addrs, api.Addr(binary.BigEndian.Uint32(b[4*k:])))
	}
	b = b[4*count:]
	for _, list := range []*[]byte{&c.MyRandom, &c.PeerRandom} {
		if len(b) < 1 || len(b) < 1+int(b[0]) {
			return Cookie{}, false
		}
		*list, b = b[1:1+b[0]], b[1+int(b[0]):]
	}
	if len(b) != 8 {
		return Cookie{}, false
	}
	c.TieMine, c.TiePeer = binary.BigEndian.Uint32(b), binary.BigEndian.Uint32(b[4:])
	return c, true
}

// slowOpen opens bytes by the chapter's words.
func slowOpen(key, b []byte, now int) (Cookie, error) {
	if len(b) < 32 || !bytes.Equal(b[len(b)-32:], slowSeal(key, b[:len(b)-32])) {
		return Cookie{}, api.ErrCookie
	}
	c, whole := slowRead(b[:len(b)-32])
	if !whole || !slowGood(c) {
		return Cookie{}, api.ErrForm
	}
	if now > c.Made+c.Life {
		return Cookie{}, api.ErrStale
	}
	return c, nil
}

// slowSame tells whether all is the same: of any two cookies whose lists are short and whose
// numbers have their sizes, the bytes and what of the numbers is beyond them.
func slowSame(a, b Cookie) bool {
	same := a.Made == b.Made && a.Life == b.Life && a.Window == b.Window && a.Out == b.Out && a.In == b.In
	return same && slices.Equal(a.Addrs, b.Addrs) && bytes.Equal(slowBody(a), slowBody(b))
}

// isZero tells whether a cookie is the zero value.
func isZero(c Cookie) bool {
	return c.Made == 0 && c.Life == 0 && c.Mine == 0 && c.Peers == 0 && c.MyTSN == 0 && c.PeerTSN == 0 &&
		c.Window == 0 && c.Out == 0 && c.In == 0 && c.Addrs == nil && c.MyRandom == nil && c.PeerRandom == nil &&
		c.TieMine == 0 && c.TiePeer == 0
}

// isGood tells of a cookie that isn't taken for good, or whose bytes aren't those of the
// chapter's words, or aren't opened to it.
func isGood(t *testing.T, what string, c Cookie) {
	t.Helper()
	want := sealed(secret, slowBody(c))
	b, err := Make(secret, c)
	if !Good(c) || err != nil || !bytes.Equal(b, want) {
		t.Errorf("%s: not good: %x, %v, not %x", what, b, err, want)
	}
	isOpened(t, what, want, c.Made, c)
}

// isNotGood tells of a cookie that is taken for good.
func isNotGood(t *testing.T, what string, c Cookie) {
	t.Helper()
	if b, err := Make(secret, c); Good(c) || err != api.ErrForm || b != nil {
		t.Errorf("%s: good: %x, %v", what, b, err)
	}
	for _, now := range []int{math.MinInt64, -1, 0, 1, 1 << 32, 1<<62 + 1<<31 + 1, math.MaxInt64} {
		if late := Late(c, now); late != 0 {
			t.Errorf("%s: not good, at %d late by %d", what, now, late)
		}
	}
}

// isOpened tells of bytes that aren't opened to this.
func isOpened(t *testing.T, what string, b []byte, now int, want Cookie) {
	t.Helper()
	c, err := Open(secret, b, now)
	if err != nil || !slowSame(c, want) || !Same(c, want) {
		t.Errorf("%s, at %d: %+v, %v, not %+v", what, now, c, err, want)
	}
}

// isRefused tells of bytes that aren't refused for this.
func isRefused(t *testing.T, what string, key, b []byte, now int, want api.Errno) {
	t.Helper()
	if c, err := Open(key, b, now); err != want || !isZero(c) {
		t.Errorf("%s, at %d: %+v, %v, not %v", what, now, c, err, want)
	}
}

// isOpenedAsTold tells of bytes that are opened otherwise than by the chapter's words, and
// answers the error that they are refused for.
func isOpenedAsTold(t *testing.T, what string, b []byte, now int) error {
	t.Helper()
	want, refused := slowOpen(secret, b, now)
	got, err := Open(secret, b, now)
	if refused == nil && (err != nil || !slowSame(got, want)) {
		t.Errorf("%s: %x: %+v, %v, not %+v", what, b, got, err, want)
	}
	if refused != nil && (err != refused || !isZero(got)) {
		t.Errorf("%s: %x: %+v, %v, not %v", what, b, got, err, refused)
	}
	return refused
}

func number(n int) string { return strconv.Itoa(n) }

func mustMake(t *testing.T, key []byte, c Cookie) []byte {
	t.Helper()
	b, err := Make(key, c)
	if err != nil {
		t.Fatal(err)
	}
	return b
}

func unhex(t *testing.T, s string) []byte {
	t.Helper()
	b, err := hex.DecodeString(s)
	if err != nil {
		t.Fatal(err)
	}
	return b
}

// turned is a text with one bit turned.
func turned(text []byte, bit int) []byte {
	other := slices.Clone(text)
	other[bit/8] ^= 1 << (bit % 8)
	return other
}

func randomBytes(r *rand.Rand, n int) []byte {
	b := make([]byte, n)
	r.Read(b)
	return b
}

// randomCookie is any good cookie.
func randomCookie(r *rand.Rand) Cookie {
	c := Cookie{
		Made: int(r.Int63n(1<<62 + 1)), Life: 1 + int(r.Int63n(1<<31)),
		Mine: 1 + uint32(r.Int63n(1<<32-1)), Peers: 1 + uint32(r.Int63n(1<<32-1)),
		MyTSN: r.Uint32(), PeerTSN: r.Uint32(),
		Window: int(r.Int31()), Out: 1 + r.Intn(8), In: 1 + r.Intn(8),
		MyRandom: randomBytes(r, 1+r.Intn(64)), PeerRandom: randomBytes(r, 1+r.Intn(64)),
	}
	for range 1 + r.Intn(4) {
		c.Addrs = append(c.Addrs, 1+api.Addr(r.Int63n(math.MaxInt32)))
	}
	if r.Intn(2) == 0 {
		c.TieMine, c.TiePeer = r.Uint32(), r.Uint32()
	}
	return c
}

// P9.1: Good and Make.

func TestTheExample(t *testing.T) {
	c := plain()
	c.Made, c.Life = 5, 10
	b := mustMake(t, secret, c)
	isOpened(t, "the example", b, 15, c)
	isRefused(t, "the example", secret, b, 16, api.ErrStale)
	if Late(c, 15) != 0 || Late(c, 16) != 1 {
		t.Error(Late(c, 15), Late(c, 16))
	}
}

func TestBytesWrittenOut(t *testing.T) {
	body := unhex(t, plainBody)
	if !bytes.Equal(body, slowBody(plain())) || len(body) != 16+20+3+8+4+3+8 {
		t.Fatalf("%x", slowBody(plain()))
	}
	if b := mustMake(t, secret, plain()); !bytes.Equal(b, sealed(secret, body)) {
		t.Errorf("%x, not %x", b, sealed(secret, body))
	}
	short := "0000000000000000" + "0000000000000001" + "00000001" + "00000001" + strings.Repeat("00000000", 3) +
		"01" + "01" + "01" + "00000001" + "01" + "00" + "01" + "00" + "00000000" + "00000000"
	if b := mustMake(t, secret, least()); !bytes.Equal(b, sealed(secret, unhex(t, short))) || len(b) != 87 {
		t.Errorf("%x", b)
	}
	f, address := strings.Repeat("ff", 64), "7fffffff"
	long := "4000000000000000" + "0000000080000000" + strings.Repeat("ffffffff", 4) + "7fffffff" +
		"08" + "08" + "04" + strings.Repeat(address, 4) + "40" + f + "40" + f + "ffffffff" + "ffffffff"
	if b := mustMake(t, secret, most()); !bytes.Equal(b, sealed(secret, unhex(t, long))) || len(b) != 225 {
		t.Errorf("%x", b)
	}
}

// A seal that was reckoned by another library, so that it isn't only Go's word against mac's.
func TestASealWrittenOut(t *testing.T) {
	want := "80cabb7133b5b7c749ed1b1a86fa84984e1fa30e6e5f5bee57fa61e7520af607"
	b := mustMake(t, []byte("key"), plain())
	if got := hex.EncodeToString(b[len(b)-32:]); got != want {
		t.Errorf("%s, not %s", got, want)
	}
}

func TestNumbersOfACookie(t *testing.T) {
	for _, c := range []struct {
		what string
		n    []int // good ones and then others, parted at good
		good int
		set  func(c *Cookie, n int)
	}{
		{"Made", []int{0, 1, 255, 256, 1<<31 - 1, 1 << 31, 1 << 32, 1<<62 - 1, 1 << 62, -1, -1 << 62, 1<<62 + 1, math.MaxInt64, math.MinInt64}, 9, func(c *Cookie, n int) { c.Made = n }},
		{"Life", []int{1, 2, 255, 256, 1<<31 - 1, 1 << 31, 0, -1, 1<<31 + 1, 1 << 32, 1<<32 + 1, 1 << 62, math.MaxInt64, math.MinInt64, math.MinInt64 + 1}, 6, func(c *Cookie, n int) { c.Life = n }},
		{"Mine", []int{1, 2, 1 << 31, 1<<32 - 1, 0}, 4, func(c *Cookie, n int) { c.Mine = uint32(n) }},
		{"Peers", []int{1, 2, 1 << 31, 1<<32 - 1, 0}, 4, func(c *Cookie, n int) { c.Peers = uint32(n) }},
		{"MyTSN", []int{0, 1, 1 << 31, 1<<32 - 1}, 4, func(c *Cookie, n int) { c.MyTSN = uint32(n) }},
		{"PeerTSN", []int{0, 1, 1 << 31, 1<<32 - 1}, 4, func(c *Cookie, n int) { c.PeerTSN = uint32(n) }},
		{"Window", []int{0, 1, 2000, 1<<31 - 1, -1, 1 << 31, 1<<32 - 1, 1 << 32, 1<<32 + 1, math.MaxInt64, math.MinInt64}, 4, func(c *Cookie, n int) { c.Window = n }},
		{"Out", []int{1, 2, 7, 8, 0, -1, 9, 16, 255, 256, 257, 1 << 32, 1<<32 + 1, math.MaxInt64, math.MinInt64}, 4, func(c *Cookie, n int) { c.Out = n }},
		{"In", []int{1, 2, 7, 8, 0, -1, 9, 16, 255, 256, 257, 1 << 32, 1<<32 + 1, math.MaxInt64, math.MinInt64}, 4, func(c *Cookie, n int) { c.In = n }},
		{"TieMine", []int{0, 1, 1 << 31, 1<<32 - 1}, 4, func(c *Cookie, n int) { c.TieMine = uint32(n) }},
		{"TiePeer", []int{0, 1, 1 << 31, 1<<32 - 1}, 4, func(c *Cookie, n int) { c.TiePeer = uint32(n) }},
	} {
		for k, n := range c.n {
			for _, cookie := range []Cookie{least(), plain(), most()} {
				c.set(&cookie, n)
				if k < c.good {
					isGood(t, c.what+" "+number(n), cookie)
				} else {
					isNotGood(t, c.what+" "+number(n), cookie)
				}
			}
		}
	}
}

// Both ties are 0 where there was no association, but nothing is told of one of them alone.
func TestTies(t *testing.T) {
	for _, ties := range [][2]uint32{{0, 0}, {1, 0}, {0, 1}, {5, 5}, {math.MaxUint32, 1}} {
		c := with(func(c *Cookie) { c.TieMine, c.TiePeer = ties[0], ties[1] })
		isGood(t, "ties", c)
	}
}

func TestHowManyAddresses(t *testing.T) {
	for n := range 300 {
		c := with(func(c *Cookie) {
			c.Addrs = nil
			for k := range n {
				c.Addrs = append(c.Addrs, api.Addr(k+1))
			}
		})
		if n >= 1 && n <= 4 {
			isGood(t, number(n)+" addresses", c)
		} else {
			isNotGood(t, number(n)+" addresses", c)
		}
	}
	isNotGood(t, "a list of none", with(func(c *Cookie) { c.Addrs = []api.Addr{} }))
}

func TestEachAddress(t *testing.T) {
	right := []api.Addr{1, 2, 255, 256, 1<<31 - 2, 1<<31 - 1}
	wrong := []api.Addr{0, -1, 1 << 31, 1<<32 - 1, 1 << 32, 1<<32 + 1, math.MaxInt64, math.MinInt64, math.MinInt64 + 1}
	for n := 1; n <= 4; n++ {
		for at := range n {
			list := []api.Addr{3, 4, 3, 4}[:n]
			for _, a := range right {
				list[at] = a
				isGood(t, "an address", with(func(c *Cookie) { c.Addrs = list }))
			}
			for _, a := range wrong {
				list[at] = a
				isNotGood(t, number(int(a))+" at "+number(at)+" of "+number(n), with(func(c *Cookie) { c.Addrs = list }))
			}
		}
	}
	// Nothing is told of addresses that are alike.
	isGood(t, "the same address four times", with(func(c *Cookie) { c.Addrs = []api.Addr{5, 5, 5, 5} }))
}

func TestHowLongRandomsAre(t *testing.T) {
	r := rand.New(rand.NewSource(1))
	for n := range 330 {
		for k, c := range []Cookie{
			with(func(c *Cookie) { c.MyRandom = randomBytes(r, n) }),
			with(func(c *Cookie) { c.PeerRandom = randomBytes(r, n) }),
			with(func(c *Cookie) { c.MyRandom, c.PeerRandom = make([]byte, n), make([]byte, n) }),
		} {
			what := number(n) + " bytes, " + number(k)
			if n >= 1 && n <= 64 {
				isGood(t, what, c)
			} else {
				isNotGood(t, what, c)
			}
		}
	}
	isNotGood(t, "no bytes", with(func(c *Cookie) { c.MyRandom = nil }))
	isNotGood(t, "no bytes", with(func(c *Cookie) { c.PeerRandom = nil }))
}

func TestZeroCookie(t *testing.T) {
	isNotGood(t, "zero", Cookie{})
}

// What is wrong in one place isn't made up for in another one.
func TestAnyCookies(t *testing.T) {
	r := rand.New(rand.NewSource(2))
	edges := []int{math.MinInt64, -1, 0, 0, 1, 1, 1, 8, 8, 8, 9, 255, 1<<31 - 1, 1 << 31, 1<<31 + 1, 1 << 62, 1<<62 + 1, math.MaxInt64}
	edge := func() int { return edges[r.Intn(len(edges))] }
	goods := 0
	for range 40000 {
		c := randomCookie(r)
		for range r.Intn(3) {
			switch r.Intn(8) {
			case 0:
				c.Made = edge()
			case 1:
				c.Life = edge()
			case 2:
				c.Mine, c.Peers = uint32(edge()), uint32(edge())
			case 3:
				c.Window = edge()
			case 4:
				c.Out, c.In = edge(), edge()
			case 5:
				c.Addrs = append(c.Addrs, api.Addr(edge()))
			case 6:
				c.MyRandom = randomBytes(r, r.Intn(70))
			case 7:
				c.PeerRandom = randomBytes(r, r.Intn(70))
			}
		}
		if slowGood(c) {
			goods++
			isGood(t, "any", c)
		} else {
			isNotGood(t, "any", c)
		}
	}
	if goods < 5000 || goods > 35000 {
		t.Error("good ones:", goods)
	}
}

// A cookie that was made fits where chunks carry it.
func TestMadeCookiesFitIntoChunks(t *testing.T) {
	for _, c := range []Cookie{least(), plain(), most()} {
		b := mustMake(t, secret, c)
		if len(b) > api.MaxCookie || !chunk.Good(chunk.Chunk{Kind: chunk.CookieEcho, Info: b}) {
			t.Errorf("%d bytes", len(b))
		}
	}
}

func TestSecretsOfEachLength(t *testing.T) {
	r := rand.New(rand.NewSource(3))
	for n := range 200 {
		key := randomBytes(r, n)
		b := mustMake(t, key, plain())
		if !bytes.Equal(b, sealed(key, slowBody(plain()))) {
			t.Errorf("a secret of %d bytes: %x", n, b)
		}
		if c, err := Open(key, b, 0); err != nil || !Same(c, plain()) {
			t.Errorf("a secret of %d bytes: %+v, %v", n, c, err)
		}
	}
	none := mustMake(t, nil, plain())
	if !bytes.Equal(none, mustMake(t, []byte{}, plain())) || !bytes.Equal(none, sealed(nil, slowBody(plain()))) {
		t.Errorf("no secret: %x", none)
	}
	if _, err := Make(nil, Cookie{}); err != api.ErrForm {
		t.Error(err)
	}
}

// P9.1: Open.

func TestOpenOfFewBytes(t *testing.T) {
	b := mustMake(t, secret, plain())
	seal := slowSeal(secret, nil)
	for n := range 32 {
		isRefused(t, number(n)+" bytes", secret, b[:n], 0, api.ErrCookie)
		isRefused(t, number(n)+" bytes of a seal", secret, seal[:n], 0, api.ErrCookie)
		isRefused(t, number(n)+" last bytes of a seal", secret, seal[32-n:], 0, api.ErrCookie)
		isRefused(t, number(n)+" noughts", secret, make([]byte, n), 0, api.ErrCookie)
	}
	isRefused(t, "nil", secret, nil, 0, api.ErrCookie)
	isRefused(t, "nil, no secret", nil, nil, 0, api.ErrCookie)
	isRefused(t, "32 noughts", secret, make([]byte, 32), 0, api.ErrCookie)
	isRefused(t, "a seal of nothing", secret, seal, 0, api.ErrForm)
}

// Bytes that are cut off, or stand behind, make the seal wrong; where it is right again they make no cookie.
func TestOpenOfBeginningsAndMore(t *testing.T) {
	for _, c := range []Cookie{least(), plain(), most()} {
		body := slowBody(c)
		whole := sealed(secret, body)
		for n := range whole {
			isRefused(t, "the first "+number(n), secret, whole[:n], 0, api.ErrCookie)
			isRefused(t, "without the first "+number(n+1), secret, whole[n+1:], 0, api.ErrCookie)
		}
		for n := range body {
			isRefused(t, "the first "+number(n)+", sealed", secret, sealed(secret, body[:n]), 0, api.ErrForm)
		}
		for n := 1; n < 300; n++ {
			isRefused(t, number(n)+" behind", secret, append(slices.Clone(whole), make([]byte, n)...), 0, api.ErrCookie)
			more := append(slices.Clone(body), make([]byte, n)...)
			isRefused(t, number(n)+" behind, sealed", secret, sealed(secret, more), 0, api.ErrForm)
			isRefused(t, number(n)+" ahead, sealed", secret, sealed(secret, append(make([]byte, n), body...)), 0, api.ErrForm)
		}
		isRefused(t, "sealed twice", secret, sealed(secret, whole), 0, api.ErrForm)
		isRefused(t, "twice, sealed", secret, sealed(secret, slices.Concat(body, body)), 0, api.ErrForm)
		isRefused(t, "the seal first", secret, append(slowSeal(secret, body), body...), 0, api.ErrCookie)
		isRefused(t, "no seal", secret, body, 0, api.ErrCookie)
	}
	isRefused(t, "many bytes", secret, make([]byte, 1<<20), 0, api.ErrCookie)
	isRefused(t, "many bytes, sealed", secret, sealed(secret, make([]byte, 1<<20)), 0, api.ErrForm)
}

// Each byte as each other one, under a right seal: counts and numbers at all their edges.
func TestOpenWithEachByteChanged(t *testing.T) {
	opened := 0
	for _, c := range []Cookie{least(), plain(), most()} {
		body := slowBody(c)
		for at := range body {
			for value := range 256 {
				other := slices.Clone(body)
				other[at] = byte(value)
				if isOpenedAsTold(t, "byte "+number(at), sealed(secret, other), c.Made) == nil {
					opened++
				}
			}
		}
	}
	if opened < 20000 {
		t.Error("opened:", opened)
	}
}

// Numbers that no good cookie has, as bytes.
func TestOpenOfNumbersThatAreNotGood(t *testing.T) {
	body := slowBody(plain())
	for _, c := range []struct {
		what  string
		place int
		size  int
		n     uint64
		good  bool
	}{
		{"Made", 0, 8, 0, true}, {"Made", 0, 8, 1 << 62, true}, {"Made", 0, 8, 1<<62 + 1, false}, {"Made", 0, 8, math.MaxInt64, false}, {"Made", 0, 8, 1 << 63, false}, {"Made", 0, 8, 1<<63 + 5, false}, {"Made", 0, 8, math.MaxUint64, false},
		{"Life", 8, 8, 1, true}, {"Life", 8, 8, 1 << 31, true}, {"Life", 8, 8, 0, false}, {"Life", 8, 8, 1<<31 + 1, false}, {"Life", 8, 8, 1 << 32, false}, {"Life", 8, 8, 1<<32 + 1, false}, {"Life", 8, 8, 1 << 63, false}, {"Life", 8, 8, 1<<63 + 1, false}, {"Life", 8, 8, math.MaxUint64, false},
		{"Mine", 16, 4, 1, true}, {"Mine", 16, 4, math.MaxUint32, true}, {"Mine", 16, 4, 0, false},
		{"Peers", 20, 4, 1, true}, {"Peers", 20, 4, math.MaxUint32, true}, {"Peers", 20, 4, 0, false},
		{"MyTSN", 24, 4, 0, true}, {"MyTSN", 24, 4, math.MaxUint32, true},
		{"PeerTSN", 28, 4, 0, true}, {"PeerTSN", 28, 4, math.MaxUint32, true},
		{"Window", 32, 4, 0, true}, {"Window", 32, 4, math.MaxInt32, true}, {"Window", 32, 4, 1 << 31, false}, {"Window", 32, 4, math.MaxUint32, false},
		{"Out", 36, 1, 1, true}, {"Out", 36, 1, 8, true}, {"Out", 36, 1, 0, false}, {"Out", 36, 1, 9, false}, {"Out", 36, 1, 255, false},
		{"In", 37, 1, 1, true}, {"In", 37, 1, 8, true}, {"In", 37, 1, 0, false}, {"In", 37, 1, 9, false}, {"In", 37, 1, 255, false},
		{"the first address", 39, 4, 1, true}, {"the first address", 39, 4, math.MaxInt32, true}, {"the first address", 39, 4, 0, false}, {"the first address", 39, 4, 1 << 31, false}, {"the first address", 39, 4, math.MaxUint32, false},
		{"the second address", 43, 4, 1, true}, {"the second address", 43, 4, math.MaxInt32, true}, {"the second address", 43, 4, 0, false}, {"the second address", 43, 4, 1 << 31, false}, {"the second address", 43, 4, math.MaxUint32, false},
		{"TieMine", 54, 4, 0, true}, {"TieMine", 54, 4, math.MaxUint32, true},
		{"TiePeer", 58, 4, 0, true}, {"TiePeer", 58, 4, math.MaxUint32, true},
	} {
		other := slices.Clone(body)
		full := binary.BigEndian.AppendUint64(nil, c.n)
		copy(other[c.place:], full[8-c.size:])
		b := sealed(secret, other)
		what := c.what + " " + strconv.FormatUint(c.n, 10)
		if !c.good {
			isRefused(t, what, secret, b, math.MinInt64, api.ErrForm)
			isRefused(t, what, secret, b, math.MaxInt64, api.ErrForm)
			continue
		}
		if got, err := Open(secret, b, 0); err != nil || !bytes.Equal(slowBody(got), other) {
			t.Errorf("%s: %+v, %v", what, got, err)
		}
	}
}

// Lists of as many as their byte can tell, with all that is told of there.
func TestOpenOfLongLists(t *testing.T) {
	r := rand.New(rand.NewSource(4))
	for n := range 256 {
		c := with(func(c *Cookie) { c.Addrs = slices.Repeat([]api.Addr{3}, n) })
		if got, err := Open(secret, sealed(secret, slowBody(c)), 0); (err == nil) != (n >= 1 && n <= 4) || err != nil && err != api.ErrForm || len(got.Addrs) != n && err == nil {
			t.Errorf("%d addresses: %+v, %v", n, got, err)
		}
		for k, c := range []Cookie{with(func(c *Cookie) { c.MyRandom = randomBytes(r, n) }), with(func(c *Cookie) { c.PeerRandom = randomBytes(r, n) })} {
			if got, err := Open(secret, sealed(secret, slowBody(c)), 0); (err == nil) != (n >= 1 && n <= 64) || err != nil && err != api.ErrForm || err == nil && !Same(got, c) {
				t.Errorf("random %d of %d bytes: %+v, %v", k, n, got, err)
			}
		}
	}
}

// Of several errors the one that is named first is answered.
func TestWhichErrorComesFirst(t *testing.T) {
	good := with(func(c *Cookie) { c.Made, c.Life = 5, 10 })
	bad := with(func(c *Cookie) { c.Made, c.Life, c.Out = 5, 10, 9 })
	for k, c := range []struct {
		right bool // the seal is
		of    Cookie
		now   int
		want  error
	}{
		{true, good, 15, nil},
		{true, good, 16, api.ErrStale},
		{true, bad, 15, api.ErrForm},
		{true, bad, 16, api.ErrForm},
		{false, good, 15, api.ErrCookie},
		{false, good, 16, api.ErrCookie},
		{false, bad, 15, api.ErrCookie},
		{false, bad, 16, api.ErrCookie},
	} {
		b := sealed(secret, slowBody(c.of))
		if !c.right {
			b[len(b)-1] ^= 1
		}
		got, err := Open(secret, b, c.now)
		if err != c.want || err != nil && !isZero(got) || err == nil && !Same(got, c.of) {
			t.Errorf("%d: %+v, %v, not %v", k, got, err, c.want)
		}
	}
}

// Bodies that are changed, cut and lengthened anywhere, under a right seal.
func TestOpenOfAnyBytes(t *testing.T) {
	r := rand.New(rand.NewSource(5))
	times := map[error]int{}
	for range 30000 {
		c := randomCookie(r)
		body := slowBody(c)
		for range r.Intn(3) {
			at := r.Intn(len(body))
			switch r.Intn(4) {
			case 0:
				body[at] = byte(r.Intn(10))
			case 1:
				body[38] = byte(r.Intn(6))
			case 2:
				body = slices.Delete(body, at, min(at+1+r.Intn(4), len(body)))
			case 3:
				body = slices.Insert(body, at, randomBytes(r, 1+r.Intn(4))...)
			}
		}
		b := sealed(secret, body)
		if r.Intn(8) == 0 {
			b = turned(b, r.Intn(8*len(b)))
		}
		times[isOpenedAsTold(t, "any", b, c.Made+c.Life+r.Intn(5)-3)]++
	}
	for _, err := range []error{nil, api.ErrCookie, api.ErrForm, api.ErrStale} {
		if times[err] < 1000 {
			t.Errorf("%v: %d times", err, times[err])
		}
	}
}

// P9.1: Late.

func TestLate(t *testing.T) {
	for k, c := range []struct{ made, life, now, want int }{
		{5, 10, 15, 0}, {5, 10, 16, 1}, {5, 10, 17, 2}, {5, 10, 5, 0}, {5, 10, 4, 0}, {5, 10, 0, 0}, {5, 10, -1, 0}, {5, 10, 14, 0}, {5, 10, 1000, 985},
		{0, 1, 0, 0}, {0, 1, 1, 0}, {0, 1, 2, 1}, {0, 1, math.MinInt64, 0}, {0, 1, math.MaxInt64, math.MaxInt64 - 1},
		{0, 100, 100, 0}, {0, 100, 101, 1},
		{1 << 62, 1 << 31, 1 << 62, 0}, {1 << 62, 1 << 31, 1<<62 + 1<<31, 0}, {1 << 62, 1 << 31, 1<<62 + 1<<31 + 1, 1},
		{1 << 62, 1 << 31, math.MaxInt64, math.MaxInt64 - 1<<62 - 1<<31}, {1 << 62, 1 << 31, math.MinInt64, 0},
		{0, 1 << 31, 1 << 31, 0}, {0, 1 << 31, 1<<31 + 1, 1}, {1 << 62, 1, 1<<62 + 2, 1},
		{5, 10, math.MinInt64, 0}, {5, 10, math.MinInt64 + 14, 0}, {5, 10, math.MinInt64 + 15, 0}, {5, 10, math.MinInt64 + 16, 0}, {5, 10, math.MaxInt64, math.MaxInt64 - 15},
	} {
		of := with(func(of *Cookie) { of.Made, of.Life = c.made, c.life })
		if late := Late(of, c.now); late != c.want {
			t.Errorf("%d: %d, not %d", k, late, c.want)
		}
		b := mustMake(t, secret, of)
		if c.want > 0 {
			isRefused(t, number(k), secret, b, c.now, api.ErrStale)
		} else {
			isOpened(t, number(k), b, c.now, of)
		}
	}
}

func TestLateAtEachTick(t *testing.T) {
	r := rand.New(rand.NewSource(6))
	for range 200 {
		c := randomCookie(r)
		if r.Intn(2) == 0 {
			c.Made, c.Life = r.Intn(50), 1+r.Intn(50)
		}
		last := c.Made + c.Life
		for now := last - 60; now <= last+60; now++ {
			if late := Late(c, now); late != max(0, now-last) {
				t.Errorf("%d and %d at %d: %d", c.Made, c.Life, now, late)
			}
		}
	}
}

// P9.1: Same.

// changes is what makes plain another cookie, each in another place.
var changes = []func(c *Cookie){
	func(c *Cookie) { c.Made++ },
	func(c *Cookie) { c.Made = -c.Made },
	func(c *Cookie) { c.Made += 1 << 32 },
	func(c *Cookie) { c.Life++ },
	func(c *Cookie) { c.Life += 1 << 32 },
	func(c *Cookie) { c.Made, c.Life = c.Life, c.Made },
	func(c *Cookie) { c.Mine++ },
	func(c *Cookie) { c.Mine = 0 },
	func(c *Cookie) { c.Peers++ },
	func(c *Cookie) { c.Mine, c.Peers = c.Peers, c.Mine },
	func(c *Cookie) { c.MyTSN++ },
	func(c *Cookie) { c.PeerTSN++ },
	func(c *Cookie) { c.MyTSN, c.PeerTSN = c.PeerTSN, c.MyTSN },
	func(c *Cookie) { c.Window++ },
	func(c *Cookie) { c.Window += 1 << 32 },
	func(c *Cookie) { c.Out++ },
	func(c *Cookie) { c.Out += 256 },
	func(c *Cookie) { c.In++ },
	func(c *Cookie) { c.In += 256 },
	func(c *Cookie) { c.Out, c.In = c.In, c.Out },
	func(c *Cookie) { c.Addrs = nil },
	func(c *Cookie) { c.Addrs = c.Addrs[:1] },
	func(c *Cookie) { c.Addrs = c.Addrs[1:] },
	func(c *Cookie) { c.Addrs = append(c.Addrs, 9) },
	func(c *Cookie) { c.Addrs = append(c.Addrs, 0) },
	func(c *Cookie) { c.Addrs[0]++ },
	func(c *Cookie) { c.Addrs[1]++ },
	func(c *Cookie) { c.Addrs[1] += 1 << 32 },
	func(c *Cookie) { c.Addrs[0], c.Addrs[1] = c.Addrs[1], c.Addrs[0] },
	func(c *Cookie) { c.MyRandom = nil },
	func(c *Cookie) { c.MyRandom = c.MyRandom[:2] },
	func(c *Cookie) { c.MyRandom = append(c.MyRandom, 0) },
	func(c *Cookie) { c.MyRandom[0]++ },
	func(c *Cookie) { c.MyRandom[2]++ },
	func(c *Cookie) { c.PeerRandom = nil },
	func(c *Cookie) { c.PeerRandom = c.PeerRandom[:1] },
	func(c *Cookie) { c.PeerRandom = append(c.PeerRandom, 0) },
	func(c *Cookie) { c.PeerRandom[0]++ },
	func(c *Cookie) { c.PeerRandom[1]++ },
	func(c *Cookie) { c.MyRandom, c.PeerRandom = c.PeerRandom, c.MyRandom },
	func(c *Cookie) {
		c.MyRandom, c.PeerRandom = append(c.MyRandom, c.PeerRandom[0]), c.PeerRandom[1:]
	},
	func(c *Cookie) { c.TieMine++ },
	func(c *Cookie) { c.TiePeer++ },
	func(c *Cookie) { c.TieMine, c.TiePeer = c.TiePeer, c.TieMine },
	func(c *Cookie) { c.TieMine, c.TiePeer = 0, 0 },
}

func TestSame(t *testing.T) {
	list := []Cookie{plain(), {}}
	for _, change := range changes {
		list = append(list, with(change))
	}
	for k, a := range list {
		for j, b := range list {
			if Same(a, b) != (k == j) {
				t.Errorf("%d and %d: %v", k, j, k != j)
			}
		}
	}
	again := []Cookie{plain(), {}}
	for _, change := range changes {
		again = append(again, with(change))
	}
	for k := range list {
		if !Same(list[k], again[k]) || !Same(again[k], list[k]) {
			t.Errorf("%d, made twice: not the same", k)
		}
	}
}

func TestSameOfEmptyLists(t *testing.T) {
	nils := with(func(c *Cookie) { c.Addrs, c.MyRandom, c.PeerRandom = nil, nil, nil })
	empty := with(func(c *Cookie) { c.Addrs, c.MyRandom, c.PeerRandom = []api.Addr{}, []byte{}, c.PeerRandom[:0] })
	if !Same(nils, empty) || !Same(empty, nils) || !Same(Cookie{}, Cookie{Addrs: []api.Addr{}, MyRandom: []byte{}, PeerRandom: []byte{}}) {
		t.Error("nil and empty lists aren't the same")
	}
}

// Room behind a list is no part of it.
func TestSameWithRoomBehind(t *testing.T) {
	addrs, random := append(plain().Addrs, 5, 6), append(plain().MyRandom, 7)
	c := with(func(c *Cookie) { c.Addrs, c.MyRandom = addrs[:2], random[:3] })
	if !Same(c, plain()) || !Same(plain(), c) {
		t.Error("the room behind makes a difference")
	}
}

func TestSameOfAnyCookies(t *testing.T) {
	r := rand.New(rand.NewSource(7))
	for range 3000 {
		a := randomCookie(r)
		if len(a.Addrs) < 2 || len(a.MyRandom) < 3 || len(a.PeerRandom) < 2 {
			continue
		}
		b := a
		b.Addrs, b.MyRandom, b.PeerRandom = slices.Clone(a.Addrs), slices.Clone(a.MyRandom), slices.Clone(a.PeerRandom)
		if r.Intn(3) > 0 {
			changes[r.Intn(len(changes))](&b)
		}
		if Same(a, b) != slowSame(a, b) || Same(b, a) != slowSame(a, b) {
			t.Errorf("%+v and %+v: %v", a, b, Same(a, b))
		}
	}
}

// P9.2: what was made is opened; by another secret, or with bits turned, it isn't.

func TestWhatWasMadeIsOpened(t *testing.T) {
	r := rand.New(rand.NewSource(8))
	for range 3000 {
		c, key := randomCookie(r), randomBytes(r, r.Intn(100))
		b := mustMake(t, key, c)
		last := c.Made + c.Life
		for _, now := range []int{math.MinInt64, -1, 0, c.Made - 1, c.Made, c.Made + 1, last - 1, last} {
			if got, err := Open(key, b, now); err != nil || !Same(got, c) || !slowSame(got, c) {
				t.Fatalf("%+v, at %d: %+v, %v", c, now, got, err)
			}
		}
		for _, now := range []int{last + 1, last + 2, last + 1000, math.MaxInt64} {
			isRefused(t, "stale", key, b, now, api.ErrStale)
		}
		got, err := Open(key, b, last)
		if again := mustMake(t, key, got); err != nil || !bytes.Equal(again, b) {
			t.Fatalf("made again: %x, not %x", again, b)
		}
	}
}

func TestByAnotherSecretItIsNotOpened(t *testing.T) {
	r := rand.New(rand.NewSource(9))
	for _, n := range []int{1, 15, 16, 63, 64, 65, 128, 200} {
		key := randomBytes(r, n)
		b := mustMake(t, key, plain())
		for bit := range 8 * n {
			isRefused(t, "a bit of the secret turned", turned(key, bit), b, 0, api.ErrCookie)
		}
		for _, other := range [][]byte{nil, {1}, append([]byte{1}, key...), append(slices.Clone(key), 1), append([]byte{0}, key...), []byte("other")} {
			isRefused(t, "another secret", other, b, 0, api.ErrCookie)
			isRefused(t, "made by another secret", key, mustMake(t, other, plain()), 0, api.ErrCookie)
		}
		if n > 1 {
			isRefused(t, "a secret's beginning", key[:n-1], b, 0, api.ErrCookie)
		}
	}
}

// By chapter 5 a secret that is shorter than 64 bytes has noughts behind it anyway.
func TestNoughtsBehindAShortSecretMakeNoOtherOne(t *testing.T) {
	b := mustMake(t, secret, plain())
	for n := range 130 {
		longer := append(slices.Clone(secret), make([]byte, n)...)
		if _, err := Open(longer, b, 0); (err == nil) != (len(longer) <= 64) || err != nil && err != api.ErrCookie {
			t.Errorf("%d noughts behind: %v", n, err)
		}
	}
}

// The key is all of the secret: where it is longer than 64 bytes, what is behind them too.
func TestLongSecretsAreNotCutOff(t *testing.T) {
	key := bytes.Repeat([]byte("k"), 100)
	b := mustMake(t, key, plain())
	for n := range key {
		isRefused(t, "the secret's first "+number(n), key[:n], b, 0, api.ErrCookie)
	}
}

func TestWithABitTurnedItIsNotOpened(t *testing.T) {
	for _, c := range []Cookie{least(), plain(), most()} {
		b := mustMake(t, secret, c)
		for bit := range 8 * len(b) {
			isRefused(t, "bit "+number(bit), secret, turned(b, bit), 0, api.ErrCookie)
		}
	}
}

func TestWithSeveralBitsTurnedItIsNotOpened(t *testing.T) {
	b := mustMake(t, secret, least())
	for bit := range 8 * len(b) {
		for more := bit + 1; more < 8*len(b); more += 7 {
			isRefused(t, "bits "+number(bit)+" and "+number(more), secret, turned(turned(b, bit), more), 0, api.ErrCookie)
		}
	}
	r := rand.New(rand.NewSource(10))
	for range 5000 {
		c := randomCookie(r)
		b := mustMake(t, secret, c)
		other := slices.Clone(b)
		for range 1 + r.Intn(20) {
			other = turned(other, r.Intn(8*len(b)))
		}
		if !bytes.Equal(other, b) {
			isRefused(t, "bits turned", secret, other, 0, api.ErrCookie)
		}
	}
}

// A seal is of one cookie only.
func TestSealsAreNotExchanged(t *testing.T) {
	list := []Cookie{plain()}
	for _, change := range changes {
		if c := with(change); Good(c) {
			list = append(list, c)
		}
	}
	seen := map[string]int{}
	for k, c := range list {
		b := mustMake(t, secret, c)
		if j, ok := seen[string(b)]; ok {
			t.Errorf("%d and %d have the same bytes", j, k)
		}
		seen[string(b)] = k
		for j, other := range list {
			if j == k {
				continue
			}
			o := mustMake(t, secret, other)
			mixed := slices.Concat(b[:len(b)-32], o[len(o)-32:])
			isRefused(t, number(k)+" with the seal of "+number(j), secret, mixed, 0, api.ErrCookie)
		}
	}
}

// P9.3: what is handed in is neither changed nor kept; answers are new memory.

// roomy is a list with room behind it, in which something stands.
func roomy[T any](list []T, behind T) []T {
	long := slices.Concat(list, slices.Repeat([]T{behind}, 50))
	return long[:len(list)]
}

// whole is a list with the room behind it.
func whole[T any](list []T) []T { return list[:cap(list)] }

// spoil writes over a list and the room behind it.
func spoil[T any](list []T, by T) {
	for k := range whole(list) {
		whole(list)[k] = by
	}
}

func TestWhatIsHandedInIsNotChanged(t *testing.T) {
	for _, c := range []Cookie{least(), plain(), most(), with(func(c *Cookie) { c.Out = 9 })} {
		key := roomy(secret, 0x77)
		c.Addrs, c.MyRandom, c.PeerRandom = roomy(c.Addrs, 77), roomy(c.MyRandom, 0x77), roomy(c.PeerRandom, 0x77)
		b := roomy(sealed(secret, slowBody(c)), 0x77)
		addrs, mine, peers := slices.Clone(whole(c.Addrs)), slices.Clone(whole(c.MyRandom)), slices.Clone(whole(c.PeerRandom))
		keyWas, bytesWere := slices.Clone(whole(key)), slices.Clone(whole(b))
		Good(c)
		Make(key, c)
		Open(key, b, 0)
		Open(key, b, math.MaxInt64)
		Open(key, b[:len(b)-1], 0)
		Open(b, key, 0)
		Late(c, math.MaxInt64)
		Same(c, c)
		Same(c, plain())
		if !slices.Equal(whole(c.Addrs), addrs) || !bytes.Equal(whole(c.MyRandom), mine) || !bytes.Equal(whole(c.PeerRandom), peers) {
			t.Errorf("the cookie is changed: %+v", c)
		}
		if !bytes.Equal(whole(key), keyWas) || !bytes.Equal(whole(b), bytesWere) {
			t.Error("the secret or the bytes are changed")
		}
	}
}

func TestWhatIsHandedInIsNotKept(t *testing.T) {
	key, c := slices.Clone(secret), plain()
	b := mustMake(t, key, c)
	spoil(c.Addrs, 5)
	spoil(c.MyRandom, 5)
	spoil(c.PeerRandom, 5)
	spoil(key, 5)
	if !bytes.Equal(b, sealed(secret, slowBody(plain()))) {
		t.Error("what was made changes with what was handed in")
	}
	got, err := Open(secret, b, 0)
	spoil(b, 5)
	if err != nil || !Same(got, plain()) {
		t.Errorf("what was opened changes with what was handed in: %+v, %v", got, err)
	}
}

func TestAnswersAreNewMemory(t *testing.T) {
	c := plain()
	b := mustMake(t, secret, c)
	other := mustMake(t, secret, c)
	spoil(b, 5)
	if !bytes.Equal(other, sealed(secret, slowBody(plain()))) || !Same(c, plain()) {
		t.Error("changing what was made changed another answer, or what was handed in")
	}
	b = mustMake(t, secret, plain())
	one, err1 := Open(secret, b, 0)
	two, err2 := Open(secret, b, 0)
	if err1 != nil || err2 != nil {
		t.Fatal(err1, err2)
	}
	spoil(one.Addrs, 5)
	if !bytes.Equal(one.MyRandom, plain().MyRandom) || !bytes.Equal(one.PeerRandom, plain().PeerRandom) {
		t.Error("addresses share memory with a random")
	}
	spoil(one.MyRandom, 5)
	if !bytes.Equal(one.PeerRandom, plain().PeerRandom) {
		t.Error("both randoms share memory")
	}
	one, _ = Open(secret, b, 0)
	spoil(one.PeerRandom, 5)
	if !bytes.Equal(one.MyRandom, plain().MyRandom) {
		t.Error("both randoms share memory")
	}
	if !Same(two, plain()) || !bytes.Equal(b, sealed(secret, slowBody(plain()))) {
		t.Error("changing what was opened changed another answer, or what was handed in")
	}
}

func TestSeveralAtOnce(t *testing.T) {
	c, key := most(), slices.Clone(secret)
	b := mustMake(t, key, c)
	done := make(chan bool)
	for range 8 {
		go func() {
			right := true
			for range 100 {
				got, err := Open(key, b, 0)
				again, err2 := Make(key, c)
				right = right && err == nil && err2 == nil && Same(got, c) && bytes.Equal(again, b) && Late(c, math.MaxInt64) > 0
			}
			done <- right
		}()
	}
	for range 8 {
		if !<-done {
			t.Error("calls at the same time disturb each other")
		}
	}
}
