package sha

import (
	"bytes"
	"crypto/sha256"
	"encoding/hex"
	"math"
	"math/big"
	"math/rand"
	"slices"
	"strings"
	"testing"
)

// ofNothing is the digest of no bytes, as published.
const ofNothing = "e3b0c44298fc1c149afbf4c8996fb92427ae41e4649b934ca495991b7852b855"

// edges is how many bytes texts have whose filling is at an edge: the last
// ones that need no further block, the first ones that do, whole blocks.
var edges = []int{0, 1, 54, 55, 56, 57, 62, 63, 64, 65, 118, 119, 120, 121, 127, 128, 129, 183, 184, 191, 192, 193}

// want is SHA-256 of a text, by the library.
func want(text []byte) Digest {
	return Digest(sha256.Sum256(text))
}

func randomText(r *rand.Rand, n int) []byte {
	text := make([]byte, n)
	r.Read(text)
	return text
}

// added is a state to which the parts were added.
func added(parts ...[]byte) *State {
	s := Begin()
	for _, part := range parts {
		s.Add(part)
	}
	return s
}

func told(d Digest) string {
	return hex.EncodeToString(d[:])
}

// P4.1: the digest.

func TestTheExample(t *testing.T) {
	if got := told(Sum([]byte("abc"))); !strings.HasPrefix(got, "ba7816bf") {
		t.Errorf("abc: %s", got)
	}
}

func TestPublishedDigests(t *testing.T) {
	for _, c := range []struct {
		text []byte
		want string
	}{
		{nil, ofNothing},
		{[]byte("abc"), "ba7816bf8f01cfea414140de5dae2223b00361a396177a9cb410ff61f20015ad"},
		{[]byte("abcdbcdecdefdefgefghfghighijhijkijkljklmklmnlmnomnopnopq"), "248d6a61d20638b8e5c026930c3e6039a33ce45964ff2167f6ecedd419db06c1"},
		{[]byte("abcdefghbcdefghicdefghijdefghijkefghijklfghijklmghijklmnhijklmnoijklmnopjklmnopqklmnopqrlmnopqrsmnopqrstnopqrstu"), "cf5b16a778af8380036ce59e7b0492370b249b11e8f07a51afac45037afee9d1"},
		{[]byte("The quick brown fox jumps over the lazy dog"), "d7a8fbb307d7809469ca9abcb0082e4f8d5651e46d3cdb762d02d0bf37c9e592"},
		{[]byte("The quick brown fox jumps over the lazy dog."), "ef537f25c895bfa782526529a9b63d97aa631564d5d789c2b765448c8635fb6c"},
		{[]byte{0xbd}, "68325720aabd7c82f30f554b313d0570c95accbb7dc4b5aae11204c08ffe732b"},
		{[]byte{0xc9, 0x8c, 0x8e, 0x55}, "7abc22c0ae5af26ce93dbb94433a0e0b2e119d014f8e7f65bd56c61ccccd9504"},
		{bytes.Repeat([]byte("a"), 1000000), "cdc76e5c9914fb9281a1c7e284d73e67f1809a48a497200e046d39ccc7112cd0"},
	} {
		if got := told(Sum(c.text)); got != c.want {
			t.Errorf("Sum(%.60q): %s, not %s", c.text, got, c.want)
		}
		if got := told(added(c.text).Sum()); got != c.want {
			t.Errorf("%.60q added: %s, not %s", c.text, got, c.want)
		}
	}
}

func TestTextsOfEachLength(t *testing.T) {
	r := rand.New(rand.NewSource(1))
	for n := range 600 {
		for _, text := range [][]byte{randomText(r, n), make([]byte, n), bytes.Repeat([]byte{0xff}, n), bytes.Repeat([]byte{0x80}, n)} {
			if got, want := Sum(text), want(text); got != want {
				t.Errorf("%d bytes: %x, not %x", n, got, want)
			}
		}
	}
}

func TestTextsAtTheEdges(t *testing.T) {
	seen := map[Digest]int{}
	for _, n := range edges {
		text := bytes.Repeat([]byte("a"), n)
		got := added(text).Sum()
		if want := want(text); got != want || Sum(text) != want {
			t.Errorf("%d bytes: %x, not %x", n, got, want)
		}
		if m, ok := seen[got]; ok {
			t.Errorf("%d bytes and %d bytes have one digest", m, n)
		}
		seen[got] = n
	}
}

func TestLongTexts(t *testing.T) {
	r := rand.New(rand.NewSource(2))
	for _, n := range []int{1<<13 - 1, 1 << 13, 1<<16 - 9, 1<<16 - 8, 1 << 16, 1<<20 + 55, 3<<20 + 56} {
		text := randomText(r, n)
		if got, want := Sum(text), want(text); got != want {
			t.Errorf("%d bytes: %x, not %x", n, got, want)
		}
	}
}

func TestEachBitOfATextCounts(t *testing.T) {
	text := randomText(rand.New(rand.NewSource(3)), 130)
	whole := Sum(text)
	for bit := range 8 * len(text) {
		text[bit/8] ^= 1 << (bit % 8)
		if got := Sum(text); got == whole || got != want(text) {
			t.Errorf("bit %d turned: %x", bit, got)
		}
		text[bit/8] ^= 1 << (bit % 8)
	}
}

// root is the first 32 bits behind the point of a number's root.
func root(n int64, degree int) uint32 {
	shifted := new(big.Int).Lsh(big.NewInt(n), uint(32*degree))
	low, high := big.NewInt(0), new(big.Int).Lsh(big.NewInt(n), 32)
	for low.Cmp(high) < 0 {
		midst := new(big.Int).Add(low, high)
		midst.Add(midst, big.NewInt(1)).Rsh(midst, 1)
		power := new(big.Int).Exp(midst, big.NewInt(int64(degree)), nil)
		if power.Cmp(shifted) <= 0 {
			low = midst
		} else {
			high = midst.Sub(midst, big.NewInt(1))
		}
	}
	return uint32(low.Uint64())
}

func TestTablesAreRootsOfPrimes(t *testing.T) {
	i := 0
	for n := int64(2); i < 64; n++ {
		if !big.NewInt(n).ProbablyPrime(20) {
			continue
		}
		if i < 8 && squareRoots[i] != root(n, 2) {
			t.Errorf("the square root of %d: %08x, not %08x", n, squareRoots[i], root(n, 2))
		}
		if cubeRoots[i] != root(n, 3) {
			t.Errorf("the cube root of %d: %08x, not %08x", n, cubeRoots[i], root(n, 3))
		}
		i++
	}
}

// slowFilling is by the document's own words: noughts are put till it fits.
func slowFilling(n uint64) []byte {
	fill := []byte{128}
	for new(big.Int).Mod(new(big.Int).Add(new(big.Int).SetUint64(n), big.NewInt(int64(len(fill)+8))), big.NewInt(64)).Sign() != 0 {
		fill = append(fill, 0)
	}
	var count [8]byte
	new(big.Int).Mul(new(big.Int).SetUint64(n), big.NewInt(8)).FillBytes(count[:])
	return append(fill, count[:]...)
}

// Texts of so many bytes would take long to go through: only what is put
// behind them is looked at here.
func TestFillingOfGreatTexts(t *testing.T) {
	lengths := []uint64{1 << 13, 1 << 21, 1<<29 - 1, 1 << 29, 1<<29 + 55, 1<<29 + 56, math.MaxInt32 - 1, math.MaxInt32, 1 << 31, 1<<32 + 1, 1<<61 - 1}
	for n := range uint64(200) {
		lengths = append(lengths, n)
	}
	for _, n := range lengths {
		if got, want := filling(n), slowFilling(n); !bytes.Equal(got, want) {
			t.Errorf("behind %d bytes: %x, not %x", n, got, want)
		}
	}
}

func TestWordsEndWhenTheyAreLeft(t *testing.T) {
	var block [64]byte
	for i := range block {
		block[i] = byte(i)
	}
	all := map[int]uint32{}
	next := 0
	for i, m := range words(block) {
		if i != next {
			t.Fatalf("number %d, not %d", i, next)
		}
		next++
		all[i] = m
	}
	if next != 64 || all[0] != 0x00010203 || all[15] != 0x3c3d3e3f {
		t.Fatalf("%d words, from %08x to %08x", next, all[0], all[15])
	}
	for stop := range 64 {
		got := 0
		for i, m := range words(block) {
			if m != all[i] {
				t.Fatalf("word %d: %08x, not %08x", i, m, all[i])
			}
			got++
			if i == stop {
				break
			}
		}
		if got != stop+1 {
			t.Errorf("left at %d: %d words", stop, got)
		}
	}
}

// P4.1: Sum of parts.

func TestSumOfNoParts(t *testing.T) {
	for i, got := range []Digest{Sum(), Sum(nil), Sum([]byte{}), Sum(nil, []byte{}, nil), Sum([][]byte{}...), Sum([][]byte(nil)...)} {
		if told(got) != ofNothing {
			t.Errorf("%d: %x", i, got)
		}
	}
}

func TestSumOfSeveralParts(t *testing.T) {
	abc, x := []byte("abc"), bytes.Repeat([]byte("x"), 70)
	for i, c := range []struct {
		parts [][]byte
		want  []byte
	}{
		{[][]byte{abc}, abc},
		{[][]byte{nil, abc}, abc},
		{[][]byte{abc, nil}, abc},
		{[][]byte{{}, abc[:1], nil, abc[1:], {}, nil}, abc},
		{[][]byte{abc, abc}, []byte("abcabc")},
		{[][]byte{x, nil, abc, {}, x}, slices.Concat(x, abc, x)},
		{[][]byte{abc, x}, slices.Concat(abc, x)},
		{[][]byte{x, abc}, slices.Concat(x, abc)},
	} {
		if got, want := Sum(c.parts...), want(c.want); got != want {
			t.Errorf("%d: %x, not %x", i, got, want)
		}
		if got, want := added(c.parts...).Sum(), want(c.want); got != want {
			t.Errorf("%d, added: %x, not %x", i, got, want)
		}
	}
	if Sum(abc, x) == Sum(x, abc) {
		t.Error("it makes no difference which part is first")
	}
}

// P4.1: states.

func TestBeginHasNothing(t *testing.T) {
	s, other := Begin(), Begin()
	if s == nil || s == other || told(s.Sum()) != ofNothing {
		t.Fatalf("Begin: %p, %p, %x", s, other, s.Sum())
	}
	s.Add([]byte("abc"))
	if told(other.Sum()) != ofNothing || told(Begin().Sum()) != ofNothing {
		t.Error("what is added to one state is added to another one")
	}
}

func TestAddOfNothing(t *testing.T) {
	for _, n := range edges {
		text := bytes.Repeat([]byte{7}, n)
		s := added(text)
		s.Add(nil)
		s.Add([]byte{})
		s.Add(text[:0])
		if s.Sum() != want(text) {
			t.Errorf("nothing added behind %d bytes: %x", n, s.Sum())
		}
	}
}

func TestSumInTheMidst(t *testing.T) {
	text := randomText(rand.New(rand.NewSource(4)), 300)
	s := Begin()
	for n := range text {
		for range 3 {
			if got, want := s.Sum(), want(text[:n]); got != want {
				t.Fatalf("behind %d bytes: %x, not %x", n, got, want)
			}
		}
		s.Add(text[n : n+1])
	}
	for _, n := range edges {
		s := added(text[:n])
		s.Sum()
		s.Add(text[n:])
		if got, want := s.Sum(), want(text); got != want {
			t.Errorf("asked behind %d bytes: %x, not %x", n, got, want)
		}
	}
}

func TestWhatIsAnsweredIsApart(t *testing.T) {
	s := added([]byte("abc"))
	first := s.Sum()
	kept := first
	for i := range first {
		first[i] ^= 0xff
	}
	if s.Sum() != kept {
		t.Error("changing a digest changed the state")
	}
	s.Add([]byte("d"))
	if s.Sum() == kept || kept != want([]byte("abc")) {
		t.Error("adding changed a digest that was answered")
	}
}

func TestNilState(t *testing.T) {
	var s *State
	for range 2 {
		s.Add(nil)
		s.Add([]byte{})
		s.Add([]byte("abc"))
		s.Add(make([]byte, 200))
		if s != nil || told(s.Sum()) != ofNothing {
			t.Errorf("%p: %x", s, s.Sum())
		}
		if c := s.Copy(); c != nil || c.Copy() != nil || told(c.Sum()) != ofNothing {
			t.Errorf("Copy: %p", c)
		}
	}
	if told(Begin().Sum()) != ofNothing {
		t.Error("what was added to a nil state is in a new one")
	}
}

// held is a state and the text that was added to it; a nil state holds none.
type held struct {
	s    *State
	text []byte
}

// oneCall does something with one of the states, and answers what there is behind it.
func oneCall(r *rand.Rand, all []held) []held {
	at := r.Intn(len(all))
	switch r.Intn(8) {
	case 0:
		return append(all, held{Begin(), nil})
	case 1:
		return append(all, held{all[at].s.Copy(), slices.Clone(all[at].text)})
	case 2:
		all[at].s.Sum()
		return all
	}
	n := r.Intn(10)
	if r.Intn(3) == 0 {
		n = edges[r.Intn(len(edges))]
	}
	part := randomText(r, n)
	all[at].s.Add(part)
	if all[at].s != nil {
		all[at].text = append(all[at].text, part...)
	}
	clear(part)
	return all
}

func TestCallsInAnyOrder(t *testing.T) {
	r := rand.New(rand.NewSource(5))
	for range 60 {
		all := []held{{nil, nil}, {Begin(), nil}}
		for range 60 {
			all = oneCall(r, all)
			for i, h := range all {
				if got, want := h.s.Sum(), want(h.text); got != want || Sum(h.text) != want {
					t.Fatalf("state %d of %d, %d bytes: %x, not %x", i, len(all), len(h.text), got, want)
				}
			}
		}
	}
}

// Rule 5: what is handed in is neither changed nor kept.

func TestWhatIsHandedInIsNotChanged(t *testing.T) {
	room := randomText(rand.New(rand.NewSource(6)), 400)
	before := slices.Clone(room)
	for _, n := range edges {
		parts := [][]byte{room[:n], nil, room[n : 2*n]}
		Sum(parts...)
		s := added(parts...)
		s.Sum()
		s.Copy().Add(room[:n])
		if !bytes.Equal(room, before) {
			t.Fatalf("parts of %d bytes: the list was changed", n)
		}
		if len(parts[0]) != n || parts[1] != nil || len(parts[2]) != n {
			t.Fatalf("parts of %d bytes: the parts were changed", n)
		}
	}
}

func TestWhatIsHandedInMayChange(t *testing.T) {
	r := rand.New(rand.NewSource(7))
	for _, n := range edges {
		room := randomText(r, n)
		kept := slices.Clone(room)
		s := added(room)
		c := s.Copy()
		for i := range room {
			room[i] ^= 0xff
		}
		if s.Sum() != want(kept) || c.Sum() != want(kept) {
			t.Errorf("%d bytes: changing the list changed the digest", n)
		}
		s.Add(room)
		clear(room)
		inverted := slices.Clone(kept)
		for i := range inverted {
			inverted[i] ^= 0xff
		}
		if s.Sum() != want(slices.Concat(kept, inverted)) {
			t.Errorf("%d bytes: changing the list changed what was added later", n)
		}
	}
}

// P4.2: into which parts a text is cut makes no difference.

func TestEveryCutInThree(t *testing.T) {
	text := randomText(rand.New(rand.NewSource(8)), 140)
	want := want(text)
	for i := range len(text) + 1 {
		for j := i; j <= len(text); j++ {
			a, b, c := text[:i], text[i:j], text[j:]
			if Sum(a, b, c) != want || added(a, b, c).Sum() != want {
				t.Fatalf("cut at %d and %d: %x, %x, not %x", i, j, Sum(a, b, c), added(a, b, c).Sum(), want)
			}
		}
	}
}

func TestPiecesOfEverySize(t *testing.T) {
	text := randomText(rand.New(rand.NewSource(9)), 1000)
	for size := 1; size <= 200; size++ {
		for _, n := range []int{0, 1, 55, 64, 128, 500, 1000 - 8, 1000} {
			pieces := slices.Collect(slices.Chunk(text[:n], size))
			if want := want(text[:n]); Sum(pieces...) != want || added(pieces...).Sum() != want {
				t.Errorf("%d bytes by pieces of %d: %x, not %x", n, size, Sum(pieces...), want)
			}
		}
	}
}

func TestPiecesRoundABlocksEnd(t *testing.T) {
	text := randomText(rand.New(rand.NewSource(10)), 330)
	for first := 50; first <= 140; first++ {
		s := added(text[:first])
		for second := range 331 - first {
			c := s.Copy()
			c.Add(text[first : first+second])
			if got, want := c.Sum(), want(text[:first+second]); got != want {
				t.Fatalf("%d bytes, then %d: %x, not %x", first, second, got, want)
			}
		}
	}
}

func TestAnyCut(t *testing.T) {
	r := rand.New(rand.NewSource(11))
	for range 300 {
		text := randomText(r, r.Intn(700))
		var parts [][]byte
		for left := text; len(left) > 0; {
			n := r.Intn(min(len(left), 1+r.Intn(150)) + 1)
			parts = append(parts, left[:n], nil, []byte{})
			left = left[n:]
		}
		if want := want(text); Sum(parts...) != want || added(parts...).Sum() != want {
			t.Errorf("%d bytes in %d parts: %x, not %x", len(text), len(parts), Sum(parts...), want)
		}
	}
}

// However the text was cut, nothing else of it is kept either.
func TestStatesOfOneTextAreTheSame(t *testing.T) {
	text := randomText(rand.New(rand.NewSource(12)), 200)
	for _, n := range edges {
		whole := added(text[:n])
		inBytes := added(slices.Collect(slices.Chunk(text[:n], 1))...)
		if *whole != *inBytes {
			t.Errorf("%d bytes: %v and %v", n, *whole, *inBytes)
		}
		for i, b := range whole.block[n%64:] {
			if b != 0 {
				t.Fatalf("%d bytes: byte %d behind them in the block is %d", n, i, b)
			}
		}
	}
}

// P4.2: a copy and what it was copied from are apart.

func TestCopyHasTheSame(t *testing.T) {
	text := randomText(rand.New(rand.NewSource(13)), 200)
	for _, n := range edges {
		s := added(text[:n])
		c := s.Copy()
		if c == nil || c == s {
			t.Fatalf("%d bytes: Copy is %p of %p", n, c, s)
		}
		if c.Sum() != want(text[:n]) || s.Sum() != want(text[:n]) || c.Copy().Sum() != want(text[:n]) {
			t.Errorf("%d bytes: %x, %x", n, s.Sum(), c.Sum())
		}
	}
}

func TestCopiesAreApart(t *testing.T) {
	text := randomText(rand.New(rand.NewSource(14)), 200)
	for _, n := range edges {
		for _, m := range edges {
			x, y := bytes.Repeat([]byte("x"), m), bytes.Repeat([]byte("y"), m)
			withX, withY := want(slices.Concat(text[:n], x)), want(slices.Concat(text[:n], y))
			for _, copyFirst := range []bool{false, true} {
				s := added(text[:n])
				c := s.Copy()
				if copyFirst {
					c.Add(y)
				}
				s.Add(x)
				if !copyFirst && c.Sum() != want(text[:n]) {
					t.Fatalf("%d bytes, %d added to the origin: the copy is changed", n, m)
				}
				if !copyFirst {
					c.Add(y)
				}
				if s.Sum() != withX || c.Sum() != withY {
					t.Fatalf("%d bytes, then %d, the copy first: %v: %x, %x", n, m, copyFirst, s.Sum(), c.Sum())
				}
			}
		}
	}
}

func TestCopiesByTurns(t *testing.T) {
	s := Begin()
	c := s.Copy()
	var textS, textC []byte
	for i := range 300 {
		x, y := []byte{byte(i)}, []byte{byte(i), byte(3 * i)}
		s.Add(x)
		c.Add(y)
		textS, textC = append(textS, x...), append(textC, y...)
		if s.Sum() != want(textS) || c.Sum() != want(textC) {
			t.Fatalf("behind %d turns: %x, %x", i+1, s.Sum(), c.Sum())
		}
	}
}

func TestACopyOutlivesItsOrigin(t *testing.T) {
	s := added([]byte("abc"))
	c := s.Copy()
	s.Add(make([]byte, 1000))
	*s = State{}
	d := c.Copy()
	c.Add([]byte("d"))
	if c.Sum() != want([]byte("abcd")) || d.Sum() != want([]byte("abc")) {
		t.Errorf("%x, %x", c.Sum(), d.Sum())
	}
}
