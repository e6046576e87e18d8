package mac

import (
	"bytes"
	"crypto/hmac"
	"crypto/sha256"
	"encoding/binary"
	"encoding/hex"
	"math"
	"math/rand"
	"slices"
	"strings"
	"testing"

	"weftline/sha"
)

// keyEdges is how many bytes keys have at the edges that the chapter names.
var keyEdges = []int{0, 1, 31, 32, 33, 63, 64, 65, 127, 128, 129, 200}

// want is HMAC-SHA256 of a key and a text, by the library.
func want(key, text []byte) sha.Digest {
	h := hmac.New(sha256.New, key)
	h.Write(text)
	return sha.Digest(h.Sum(nil))
}

// slowSum is HMAC-SHA256 by the chapter's own words.
func slowSum(key, text []byte) sha.Digest {
	key = slices.Clone(key)
	if len(key) > 64 {
		digest := sha256.Sum256(key)
		key = digest[:]
	}
	for len(key) < 64 {
		key = append(key, 0)
	}
	var inner, outer []byte
	for _, b := range key {
		inner, outer = append(inner, b^0x36), append(outer, b^0x5c)
	}
	digest := sha256.Sum256(append(inner, text...))
	return sha256.Sum256(append(outer, digest[:]...))
}

// less is the chapter's order of two texts: byte by byte, a beginning first.
func less(a, b []byte) bool {
	for i := range min(len(a), len(b)) {
		if a[i] != b[i] {
			return a[i] < b[i]
		}
	}
	return len(a) < len(b)
}

// slowDerive is the shared key by the chapter's own words.
func slowDerive(a, b []byte, between ...[]byte) []byte {
	text := slices.Concat(a, b)
	if less(b, a) {
		text = slices.Concat(b, a)
	}
	digest := sha256.Sum256(append(text, slices.Concat(between...)...))
	return digest[:]
}

// slowDraw is the first four bytes of the library's tag of n's bytes.
func slowDraw(key []byte, n int) uint32 {
	d := want(key, binary.BigEndian.AppendUint64(nil, uint64(n)))
	return binary.BigEndian.Uint32(d[:4])
}

func randomText(r *rand.Rand, n int) []byte {
	text := make([]byte, n)
	r.Read(text)
	return text
}

// randomParts cuts a text anywhere, with empty and nil parts among the others.
func randomParts(r *rand.Rand, text []byte) [][]byte {
	var parts [][]byte
	for len(text) > 0 {
		n := r.Intn(len(text) + 1)
		parts = append(parts, text[:n])
		text = text[n:]
		switch r.Intn(4) {
		case 0:
			parts = append(parts, nil)
		case 1:
			parts = append(parts, []byte{})
		}
	}
	return parts
}

// turned is a text with one bit turned.
func turned(text []byte, bit int) []byte {
	other := slices.Clone(text)
	other[bit/8] ^= 1 << (bit % 8)
	return other
}

func unhex(t *testing.T, s string) []byte {
	t.Helper()
	b, err := hex.DecodeString(s)
	if err != nil {
		t.Fatal(err)
	}
	return b
}

// P5.1: Sum.

func TestTheExample(t *testing.T) {
	d := Sum([]byte("Jefe"), []byte("what do ya want for nothing?"))
	if got := hex.EncodeToString(d[:]); !strings.HasPrefix(got, "5bdcc146") {
		t.Errorf("Jefe: %s", got)
	}
}

// The first seven are RFC 4231's; of the fifth only sixteen bytes are published.
func TestPublishedTags(t *testing.T) {
	counted := make([]byte, 25)
	for i := range counted {
		counted[i] = byte(i + 1)
	}
	for i, c := range []struct {
		key, text []byte
		want      string
	}{
		{bytes.Repeat([]byte{0x0b}, 20), []byte("Hi There"), "b0344c61d8db38535ca8afceaf0bf12b881dc200c9833da726e9376c2e32cff7"},
		{[]byte("Jefe"), []byte("what do ya want for nothing?"), "5bdcc146bf60754e6a042426089575c75a003f089d2739839dec58b964ec3843"},
		{bytes.Repeat([]byte{0xaa}, 20), bytes.Repeat([]byte{0xdd}, 50), "773ea91e36800e46854db8ebd09181a72959098b3ef8c122d9635514ced565fe"},
		{counted, bytes.Repeat([]byte{0xcd}, 50), "82558a389a443c0ea4cc819899f2083a85f0faa3e578f8077a2e3ff46729665b"},
		{bytes.Repeat([]byte{0x0c}, 20), []byte("Test With Truncation"), "a3b6167473100ee06e0c796c2955552b"},
		{bytes.Repeat([]byte{0xaa}, 131), []byte("Test Using Larger Than Block-Size Key - Hash Key First"), "60e431591ee0b67f0d8a26aacbf5b77f8e0bc6213728c5140546040f0ee37f54"},
		{bytes.Repeat([]byte{0xaa}, 131), []byte("This is a test using a larger than block-size key and a larger than block-size data. The key needs to be hashed before being used by the HMAC algorithm."), "9b09ffa71b942fcb27635fbcd5b0e944bfdc63644f0713938a7f51535c3a35e2"},
		{nil, nil, "b613679a0814d9ec772f95d778c35fc5ff1697c493715653c6c712144292c5ad"},
		{[]byte("key"), []byte("The quick brown fox jumps over the lazy dog"), "f7bc83f430538424b13298e6aa6fb143ef4d59a14946175997479dbc2d1a3cd8"},
	} {
		d := Sum(c.key, c.text)
		if got := hex.EncodeToString(d[:]); !strings.HasPrefix(got, c.want) {
			t.Errorf("%d: %s, not %s", i, got, c.want)
		}
		if full := unhex(t, c.want); Check(full, c.key, c.text) != (len(full) == 32) {
			t.Errorf("%d: Check is wrong about the published %d bytes", i, len(full))
		}
	}
}

func TestKeysOfEachLength(t *testing.T) {
	r := rand.New(rand.NewSource(1))
	for n := range 260 {
		for _, key := range [][]byte{randomText(r, n), make([]byte, n), bytes.Repeat([]byte{0xff}, n), bytes.Repeat([]byte{0x36}, n), bytes.Repeat([]byte{0x5c}, n)} {
			text := randomText(r, r.Intn(150))
			got := Sum(key, text)
			if got != want(key, text) || got != slowSum(key, text) {
				t.Errorf("a key of %d bytes: %x, not %x", n, got, want(key, text))
			}
		}
	}
}

func TestTextsOfEachLength(t *testing.T) {
	r := rand.New(rand.NewSource(2))
	for n := range 260 {
		text := randomText(r, n)
		for _, k := range keyEdges {
			key := randomText(r, k)
			if got := Sum(key, text); got != want(key, text) {
				t.Errorf("a key of %d bytes, %d bytes: %x, not %x", k, n, got, want(key, text))
			}
		}
	}
	long := randomText(r, 1<<20+7)
	if Sum(long, long) != want(long, long) {
		t.Error("a long key and a long text")
	}
}

func TestKeysOfNoBytes(t *testing.T) {
	text := []byte("text")
	room := []byte("a key")
	for i, key := range [][]byte{nil, {}, room[:0], make([]byte, 1), make([]byte, 64)} {
		if got := Sum(key, text); got != want(nil, text) {
			t.Errorf("%d: %x", i, got)
		}
	}
	if Sum(make([]byte, 65), text) == want(nil, text) {
		t.Error("65 noughts are the same key as no bytes")
	}
}

// Noughts are put behind a key of up to 64 bytes, so those that it has already
// make no difference; of a longer one they are in the digest.
func TestKeysWithNoughtsBehind(t *testing.T) {
	r := rand.New(rand.NewSource(3))
	text := randomText(r, 40)
	for _, n := range keyEdges {
		key := bytes.Repeat([]byte{7}, n)
		for more := range 140 {
			longer := append(slices.Clone(key), make([]byte, more)...)
			got := Sum(longer, text)
			if got != want(longer, text) {
				t.Fatalf("%d bytes and %d noughts: %x", n, more, got)
			}
			if same := more == 0 || n+more <= 64; (got == Sum(key, text)) != same {
				t.Errorf("%d bytes and %d noughts: the same tag: %v", n, more, !same)
			}
			// Noughts ahead of a key are no filling.
			ahead := append(make([]byte, more), key...)
			if n > 0 && more > 0 && Sum(ahead, text) == Sum(key, text) {
				t.Errorf("%d noughts ahead of %d bytes make no difference", more, n)
			}
		}
	}
}

func TestALongKeyIsItsDigest(t *testing.T) {
	r := rand.New(rand.NewSource(4))
	text := []byte("text")
	for _, n := range keyEdges {
		key := randomText(r, n)
		digest := sha256.Sum256(key)
		if same := Sum(key, text) == Sum(digest[:], text); same != (n > 64) {
			t.Errorf("a key of %d bytes: as its digest: %v", n, same)
		}
	}
}

func TestEachBitOfAKeyAndOfATextCounts(t *testing.T) {
	r := rand.New(rand.NewSource(5))
	for _, n := range []int{1, 63, 64, 65, 200} {
		key, text := randomText(r, n), randomText(r, 70)
		whole := Sum(key, text)
		for bit := range 8 * n {
			if other := turned(key, bit); Sum(other, text) == whole || Sum(other, text) != want(other, text) {
				t.Errorf("a key of %d bytes: bit %d", n, bit)
			}
		}
		for bit := range 8 * len(text) {
			if other := turned(text, bit); Sum(key, other) == whole || Sum(key, other) != want(key, other) {
				t.Errorf("a key of %d bytes: the text's bit %d", n, bit)
			}
		}
	}
}

func TestTextsInParts(t *testing.T) {
	r := rand.New(rand.NewSource(6))
	key, abc, x := []byte("key"), []byte("abc"), bytes.Repeat([]byte("x"), 70)
	for i, c := range []struct {
		parts [][]byte
		want  []byte
	}{
		{nil, nil},
		{[][]byte{}, nil},
		{[][]byte{nil}, nil},
		{[][]byte{{}}, nil},
		{[][]byte{nil, {}, nil}, nil},
		{[][]byte{abc}, abc},
		{[][]byte{nil, abc}, abc},
		{[][]byte{abc, nil}, abc},
		{[][]byte{{}, abc[:1], nil, abc[1:], {}, nil}, abc},
		{[][]byte{abc, abc}, []byte("abcabc")},
		{[][]byte{x, nil, abc, {}, x}, slices.Concat(x, abc, x)},
		{[][]byte{abc, x}, slices.Concat(abc, x)},
		{[][]byte{x, abc}, slices.Concat(x, abc)},
	} {
		want := want(key, c.want)
		if got := Sum(key, c.parts...); got != want || !Check(want[:], key, c.parts...) {
			t.Errorf("%d: %x, not %x", i, got, want)
		}
	}
	if Sum(key) != want(key, nil) || !Check(unhex(t, "b613679a0814d9ec772f95d778c35fc5ff1697c493715653c6c712144292c5ad"), nil) {
		t.Error("no part at all")
	}
	if Sum(key, abc, x) == Sum(key, x, abc) {
		t.Error("it makes no difference which part is first")
	}
	for range 500 {
		key, text := randomText(r, r.Intn(140)), randomText(r, r.Intn(400))
		parts := randomParts(r, text)
		want := want(key, text)
		if Sum(key, parts...) != want || !Check(want[:], key, parts...) {
			t.Fatalf("a key of %d bytes, %d bytes in %d parts", len(key), len(text), len(parts))
		}
	}
}

// The key's end and the text's beginning are kept apart.
func TestAKeyIsNoPartOfItsText(t *testing.T) {
	text := []byte("abcdef")
	seen := map[sha.Digest]int{}
	for n := range len(text) + 1 {
		d := Sum(text[:n], text[n:])
		if m, ok := seen[d]; ok {
			t.Errorf("keys of %d and of %d bytes have one tag", m, n)
		}
		seen[d] = n
	}
}

// P5.1 and P5.2: Check.

func TestATextsOwnTagChecks(t *testing.T) {
	r := rand.New(rand.NewSource(7))
	for _, k := range keyEdges {
		for _, n := range []int{0, 1, 55, 64, 130} {
			key, text := randomText(r, k), randomText(r, n)
			tag, library := Sum(key, text), want(key, text)
			if !Check(tag[:], key, text) || !Check(library[:], key, text) || !Check(tag[:], key, randomParts(r, text)...) {
				t.Errorf("a key of %d bytes, %d bytes: its own tag doesn't check", k, n)
			}
		}
	}
}

func TestATagWithOneBitTurnedDoesNotCheck(t *testing.T) {
	r := rand.New(rand.NewSource(8))
	for _, k := range keyEdges {
		key, text := randomText(r, k), randomText(r, 50)
		tag := Sum(key, text)
		for bit := range 8 * len(tag) {
			if Check(turned(tag[:], bit), key, text) {
				t.Errorf("a key of %d bytes: checks with bit %d turned", k, bit)
			}
		}
	}
}

// Differences of several bytes must not make up for each other.
func TestATagWithSeveralBitsTurnedDoesNotCheck(t *testing.T) {
	key, text := []byte("key"), []byte("text")
	tag := Sum(key, text)
	for first := range 8 * len(tag) {
		for second := first + 1; second < 8*len(tag); second++ {
			if Check(turned(turned(tag[:], first), second), key, text) {
				t.Fatalf("checks with bits %d and %d turned", first, second)
			}
		}
	}
	inverted := tag
	for i := range inverted {
		inverted[i] ^= 0xff
	}
	if Check(inverted[:], key, text) || Check(make([]byte, 32), key, text) {
		t.Error("checks with all bits turned, or with noughts")
	}
	swapped := tag
	slices.Reverse(swapped[:])
	if Check(swapped[:], key, text) {
		t.Error("checks from behind")
	}
}

func TestTagsOfOtherLengthsDoNotCheck(t *testing.T) {
	key, text := []byte("key"), []byte("text")
	tag := Sum(key, text)
	room := append(tag[:], tag[:]...)
	for n := range len(room) + 1 {
		if Check(room[:n], key, text) != (n == 32) {
			t.Errorf("a tag of %d bytes: %v", n, n != 32)
		}
	}
	for i, other := range [][]byte{
		nil,
		{},
		tag[1:],
		tag[:31],
		append(tag[:32:32], 0),
		append([]byte{0}, tag[:]...),
		append(tag[:32:32], make([]byte, 32)...),
		[]byte(hex.EncodeToString(tag[:])),
	} {
		if Check(other, key, text) {
			t.Errorf("%d: a tag of %d bytes checks", i, len(other))
		}
	}
}

func TestTagsOfOtherKeysAndTextsDoNotCheck(t *testing.T) {
	key, text := []byte("key"), []byte("text")
	tag := Sum(key, text)
	plain := sha.Sum(key, text)
	if Check(plain[:], key, text) {
		t.Error("the digest of key and text checks")
	}
	for i, c := range []struct{ key, text []byte }{
		{nil, text},
		{[]byte("kez"), text},
		{[]byte("Key"), text},
		{[]byte("ke"), text},
		{[]byte("keyy"), text},
		{[]byte("\x00key"), text},
		{text, key},
		{key, nil},
		{key, []byte("tex")},
		{key, []byte("text\x00")},
		{key, []byte("Text")},
		{[]byte("keyt"), []byte("ext")},
		{[]byte("ke"), []byte("ytext")},
	} {
		other := Sum(c.key, c.text)
		if Check(tag[:], c.key, c.text) || Check(other[:], key, text) {
			t.Errorf("%d: a tag of another key or text checks", i)
		}
	}
	if Check(tag[:], key) || Check(tag[:], key, text, text) || Check(tag[:], key, text[2:], text[:2]) {
		t.Error("a tag of other parts checks")
	}
	if !Check(tag[:], []byte("key\x00"), text) {
		t.Error("a nought behind the key makes a difference")
	}
}

// P5.1 and P5.2: Derive.

func TestDeriveOfKnownTexts(t *testing.T) {
	for i, c := range []struct {
		a, b    string
		between []string
		want    string
	}{
		{"ab", "abc", []string{"xy"}, "a4b2b317c3dc6845c74fa5b1abfa1c9eaca934103c85b7dad983402805734e47"},
		{"alice", "bob", nil, "a83ab2505ace9a8705ea2f0f4187087dc38947110596cf40cdd906d2cd3a9e6a"},
		{"", "", nil, "e3b0c44298fc1c149afbf4c8996fb92427ae41e4649b934ca495991b7852b855"},
		{"", "abc", nil, "ba7816bf8f01cfea414140de5dae2223b00361a396177a9cb410ff61f20015ad"},
		{"a", "b", []string{"c"}, "ba7816bf8f01cfea414140de5dae2223b00361a396177a9cb410ff61f20015ad"},
	} {
		var between [][]byte
		for _, text := range c.between {
			between = append(between, []byte(text))
		}
		a, b, want := []byte(c.a), []byte(c.b), unhex(t, c.want)
		if got := Derive(a, b, between...); !bytes.Equal(got, want) {
			t.Errorf("%d: %x, not %x", i, got, want)
		}
		if got := Derive(b, a, between...); !bytes.Equal(got, want) {
			t.Errorf("%d, the other one first: %x, not %x", i, got, want)
		}
	}
}

// In each pair the first text is the lesser one.
func TestWhichTextIsLess(t *testing.T) {
	for _, c := range []struct{ low, high string }{
		{"a", "b"},
		{"ab", "abc"},
		{"abc", "abc\x00"},
		{"", "\x00"},
		{"", "a"},
		{"aa", "b"},
		{"a\xff\xff", "b"},
		{"\x7f", "\x80"},
		{"\x00", "\xff"},
		{"abcd", "abce"},
		{"abcd", "abd"},
		{"\x01\x00", "\x02"},
		{"B", "a"},
		{strings.Repeat("a", 100), strings.Repeat("a", 101)},
		{strings.Repeat("a", 100) + "b", strings.Repeat("a", 100) + "c"},
	} {
		low, high := []byte(c.low), []byte(c.high)
		digest := sha256.Sum256(slices.Concat(low, high))
		if !bytes.Equal(Derive(low, high), digest[:]) || !bytes.Equal(Derive(high, low), digest[:]) {
			t.Errorf("%q, %q: %x, %x, not %x", c.low, c.high, Derive(low, high), Derive(high, low), digest)
		}
	}
}

func TestDeriveOfEqualAndOfNoTexts(t *testing.T) {
	same := []byte("same")
	twice := sha256.Sum256([]byte("samesame"))
	if !bytes.Equal(Derive(same, same), twice[:]) || !bytes.Equal(Derive(same, slices.Clone(same)), twice[:]) {
		t.Errorf("equal texts: %x", Derive(same, same))
	}
	nothing, once := sha256.Sum256(nil), sha256.Sum256(same)
	for i, none := range [][]byte{nil, {}, same[:0]} {
		for j, other := range [][]byte{nil, {}} {
			if !bytes.Equal(Derive(none, other), nothing[:]) || !bytes.Equal(Derive(none, other, nil, []byte{}), nothing[:]) {
				t.Errorf("%d, %d: %x", i, j, Derive(none, other))
			}
		}
		for _, got := range [][]byte{Derive(none, same), Derive(same, none), Derive(none, none, same), Derive(none, none, none, same, none)} {
			if !bytes.Equal(got, once[:]) {
				t.Errorf("%d: %x", i, got)
			}
		}
	}
}

func TestTextsBetween(t *testing.T) {
	a, b := []byte("ab"), []byte("cd")
	x, y, z := []byte("x"), []byte("yy"), bytes.Repeat([]byte("z"), 80)
	for i, between := range [][][]byte{
		nil,
		{},
		{nil},
		{{}},
		{x},
		{nil, x, {}},
		{x, y},
		{y, x},
		{x, y, z},
		{z, y, x},
		{z, nil, y, {}, x, nil},
		{a, b},
		{b, a},
	} {
		want := slowDerive(a, b, between...)
		if got := Derive(a, b, between...); !bytes.Equal(got, want) {
			t.Errorf("%d: %x, not %x", i, got, want)
		}
		if got := Derive(b, a, between...); !bytes.Equal(got, want) {
			t.Errorf("%d, the other one first: %x, not %x", i, got, want)
		}
	}
	if bytes.Equal(Derive(a, b, x, y), Derive(a, b, y, x)) {
		t.Error("those between don't keep their order")
	}
	if bytes.Equal(Derive(a, b, x), Derive(a, b)) || bytes.Equal(Derive(a, b, x), Derive(a, b, x, x)) {
		t.Error("one between makes no difference")
	}
	if !bytes.Equal(Derive(a, b, []byte("xyy")), Derive(a, b, x, y)) {
		t.Error("how those between are cut makes a difference")
	}
}

func TestDeriveOfAnyTexts(t *testing.T) {
	r := rand.New(rand.NewSource(9))
	for range 3000 {
		a, b := randomText(r, r.Intn(80)), randomText(r, r.Intn(80))
		if r.Intn(2) == 0 {
			// They begin alike.
			n := r.Intn(len(a) + 1)
			b = append(slices.Clone(a[:n]), b[:r.Intn(min(len(b), 2)+1)]...)
		}
		between := randomParts(r, randomText(r, r.Intn(100)))
		want := slowDerive(a, b, between...)
		got, other := Derive(a, b, between...), Derive(b, a, between...)
		if !bytes.Equal(got, want) || !bytes.Equal(other, want) || len(got) != 32 {
			t.Fatalf("%x, %x, %x: %x, %x, not %x", a, b, between, got, other, want)
		}
	}
}

// P5.1: Draw.

func TestDrawOfKnownNumbers(t *testing.T) {
	for _, c := range []struct {
		n             int
		byJefe, byNil uint32
	}{
		{0, 0xe6298192, 0xf375180a},
		{1, 0x73805256, 0xa4a11ce5},
		{-1, 0x71eaf26c, 0x408ac126},
		{2, 0x30f9f4d3, 0xc9fd8f5c},
		{256, 0x0623f73f, 0x68662895},
		{258, 0x98b814bd, 0xb76a6a47},
		{math.MinInt64, 0x31ab22a2, 0x97547956},
		{math.MaxInt64, 0x845d54c5, 0x0d0085e6},
		{0x0102030405060708, 0xe5c12f50, 0xc59a063c},
	} {
		if got := Draw([]byte("Jefe"), c.n); got != c.byJefe {
			t.Errorf("Draw(Jefe, %d): %08x, not %08x", c.n, got, c.byJefe)
		}
		if got, other := Draw(nil, c.n), Draw([]byte{}, c.n); got != c.byNil || other != c.byNil {
			t.Errorf("Draw(nil, %d): %08x, %08x, not %08x", c.n, got, other, c.byNil)
		}
	}
}

func TestDrawOfAnyNumbers(t *testing.T) {
	r := rand.New(rand.NewSource(10))
	numbers := []int{0, 1, -1, math.MinInt64, math.MinInt64 + 1, math.MaxInt64, math.MaxInt64 - 1, math.MaxInt32, math.MinInt32, math.MaxUint32}
	for bit := range 64 {
		numbers = append(numbers, 1<<bit, -1<<bit, 1<<bit-1)
	}
	for range 200 {
		numbers = append(numbers, int(r.Uint64()))
	}
	for _, k := range keyEdges {
		key := randomText(r, k)
		for _, n := range numbers {
			if got, want := Draw(key, n), slowDraw(key, n); got != want {
				t.Fatalf("a key of %d bytes, %d: %08x, not %08x", k, n, got, want)
			}
		}
	}
}

func TestDrawIsTheTagsBeginning(t *testing.T) {
	key := []byte("key")
	for n := range 300 {
		d := Sum(key, []byte{0, 0, 0, 0, 0, 0, byte(n >> 8), byte(n)})
		if got, want := Draw(key, n), binary.BigEndian.Uint32(d[:]); got != want || Draw(key, n) != got {
			t.Errorf("%d: %08x, not %08x", n, got, want)
		}
	}
}

// P5.3: what is handed in is neither changed nor kept.

func TestWhatIsHandedInIsNotChanged(t *testing.T) {
	whole := randomText(rand.New(rand.NewSource(11)), 1200)
	for _, n := range keyEdges {
		// Each list has the next one in the room behind it.
		room := slices.Clone(whole)
		key, a, b, tag := room[:n], room[n:2*n], room[2*n:3*n], room[3*n:3*n+32]
		parts := [][]byte{a, nil, b, {}}[:2]
		all := parts[:4]
		Sum(key, parts...)
		Check(tag, key, parts...)
		Derive(key, a, parts...)
		Derive(a, key, parts...)
		Derive(b, b, all...)
		Draw(key, n)
		if !bytes.Equal(room, whole) {
			t.Fatalf("%d bytes: what was handed in is changed", n)
		}
		if len(all[0]) != n || all[1] != nil || len(all[2]) != n || all[3] == nil || len(all[3]) != 0 {
			t.Fatalf("%d bytes: the list of parts is changed", n)
		}
		if n > 0 && (&all[0][0] != &a[0] || &all[2][0] != &b[0]) {
			t.Fatalf("%d bytes: there are other parts in the list", n)
		}
	}
}

func TestWhatIsHandedInMayChange(t *testing.T) {
	r := rand.New(rand.NewSource(12))
	for _, n := range keyEdges {
		key, a, b := randomText(r, n), randomText(r, n), randomText(r, n)
		parts := [][]byte{a, b}
		kept, keptA, keptB := slices.Clone(key), slices.Clone(a), slices.Clone(b)
		tag, shared, drawn := Sum(key, parts...), Derive(a, b, key), Draw(key, n)
		clear(key)
		clear(a)
		clear(b)
		clear(parts)
		if tag != want(kept, slices.Concat(keptA, keptB)) || !bytes.Equal(shared, slowDerive(keptA, keptB, kept)) || drawn != slowDraw(kept, n) {
			t.Errorf("%d bytes: changing what was handed in changed an answer", n)
		}
		// What is asked later is by what stands there then, not by what stood there before.
		if Sum(key, a, b) != want(key, slices.Concat(a, b)) || !bytes.Equal(Derive(a, b, key), slowDerive(a, b, key)) || Draw(key, n) != slowDraw(key, n) {
			t.Errorf("%d bytes: an answer hangs on what was handed in earlier", n)
		}
		if before := want(kept, keptA); n > 0 && Check(before[:], key, a) {
			t.Errorf("%d bytes: a tag of what was handed in earlier checks", n)
		}
	}
}

// P5.3: answers are new memory.

func TestAnswersAreApart(t *testing.T) {
	key, a, b := []byte("key"), []byte("a"), []byte("b")
	first, second := Derive(a, b, key), Derive(a, b, key)
	want := slowDerive(a, b, key)
	_ = append(first[:0], make([]byte, 32)...)
	if !bytes.Equal(second, want) || !bytes.Equal(Derive(a, b, key), want) || !bytes.Equal(Derive(b, a, key), want) {
		t.Error("changing a shared key changed another one")
	}
	if string(key) != "key" || string(a) != "a" || string(b) != "b" {
		t.Error("changing a shared key changed what was handed in")
	}
	tag, other := Sum(key, a), Sum(key, a)
	clear(tag[:])
	if tag == other || Sum(key, a) != other {
		t.Error("changing a tag changed another one")
	}
}

// Room behind an answer would be there to be written into by two who append to it.
func TestAnswersOutliveEachOther(t *testing.T) {
	text := []byte("text")
	var all [][]byte
	for i := range 200 {
		all = append(all, Derive(text, []byte{byte(i)}))
	}
	for i, got := range all {
		_ = append(got, 0xff, 0xff)
		if !bytes.Equal(got, slowDerive(text, []byte{byte(i)})) {
			t.Errorf("%d: %x", i, got)
		}
	}
}

// Where one list is handed in several times, each is still read as it is.
func TestOneListAtSeveralPlaces(t *testing.T) {
	r := rand.New(rand.NewSource(13))
	for _, n := range keyEdges {
		x := randomText(r, n)
		tag := want(x, slices.Concat(x, x))
		if Sum(x, x, x) != tag || !Check(tag[:], x, x, x) || !bytes.Equal(Derive(x, x, x), slowDerive(x, x, x)) {
			t.Errorf("%d bytes", n)
		}
		self := Sum(tag[:], tag[:])
		if Check(tag[:], tag[:], tag[:]) || self != want(tag[:], tag[:]) {
			t.Error("a tag that is its own key and text")
		}
	}
}

func TestSeveralAtOnce(t *testing.T) {
	key, text := []byte("key"), []byte("text")
	tag := want(key, text)
	done := make(chan bool)
	for range 8 {
		go func() {
			right := true
			for n := range 50 {
				right = right && Check(tag[:], key, text) && Draw(key, n) == slowDraw(key, n) && bytes.Equal(Derive(key, text), slowDerive(key, text))
			}
			done <- right
		}()
	}
	for range 8 {
		if !<-done {
			t.Error("calls at the same time disturb each other")
		}
	}
}
