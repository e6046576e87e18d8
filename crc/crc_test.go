package crc

import (
	"bytes"
	"hash/crc32"
	"math"
	"math/bits"
	"math/rand"
	"slices"
	"testing"
)

// longest is the most bytes that a closed text may have for P1.3 to hold.
const longest = 16388

// zeros is a register behind n bytes 0, by the document's own words.
func zeros(register uint32, n int) uint32 {
	for range 8 * n {
		if register&1 == 1 {
			register = register>>1 ^ 0x82f63b78
		} else {
			register >>= 1
		}
	}
	return register
}

// slowSum is CRC32c by the document's own words.
func slowSum(text []byte) uint32 {
	register := uint32(0xffffffff)
	for _, b := range text {
		register = zeros(register^uint32(b), 1)
	}
	return ^register
}

func randomText(r *rand.Rand, n int) []byte {
	text := make([]byte, n)
	r.Read(text)
	return text
}

func turn(text []byte, bit int) {
	text[bit/8] ^= 1 << (bit % 8)
}

// P1.1: Sum.

func TestSumOfTheExample(t *testing.T) {
	if got := Sum([]byte("123456789")); got != 0xe3069283 {
		t.Errorf("Sum is %08x", got)
	}
}

func TestSumOfKnownTexts(t *testing.T) {
	counted := make([]byte, 32)
	for i := range counted {
		counted[i] = byte(i)
	}
	for _, c := range []struct {
		text []byte
		want uint32
	}{
		{make([]byte, 32), 0x8a9136aa},
		{bytes.Repeat([]byte{0xff}, 32), 0x62a8ab43},
		{counted, 0x46dd794e},
		{[]byte("a"), 0xc1d04330},
		{[]byte{0}, 0x527d5351},
	} {
		if got := Sum(c.text); got != c.want {
			t.Errorf("Sum(%x) is %08x, not %08x", c.text, got, c.want)
		}
	}
}

func TestSumOfNothing(t *testing.T) {
	for i, got := range []uint32{Sum(), Sum(nil), Sum([]byte{}), Sum(nil, []byte{}, nil), Sum([][]byte{}...), Sum([][]byte(nil)...)} {
		if got != 0 {
			t.Errorf("%d: Sum is %08x", i, got)
		}
	}
}

func TestSumOfEachByte(t *testing.T) {
	for b := range 256 {
		for _, text := range [][]byte{{byte(b)}, {byte(b), 0}, {7, byte(b), 0xff}} {
			if got, want := Sum(text), slowSum(text); got != want {
				t.Errorf("Sum(%x) is %08x, not %08x", text, got, want)
			}
		}
	}
}

func TestSumOfManyTexts(t *testing.T) {
	r := rand.New(rand.NewSource(1))
	table := crc32.MakeTable(crc32.Castagnoli)
	for n := range 600 {
		text := randomText(r, n)
		if got, want := Sum(text), slowSum(text); got != want {
			t.Errorf("%d bytes: %08x, not %08x", n, got, want)
		}
	}
	for _, n := range []int{1 << 12, longest - 4, longest, 1 << 20} {
		text := randomText(r, n)
		if got, want := Sum(text), crc32.Checksum(text, table); got != want {
			t.Errorf("%d bytes: %08x, not %08x", n, got, want)
		}
	}
}

func TestSumChangesNothing(t *testing.T) {
	room := []byte("abcdefgh")
	parts := [][]byte{room[:3], nil, room[4:6]}
	first := Sum(parts...)
	if string(room) != "abcdefgh" || len(parts[0]) != 3 || parts[1] != nil || len(parts[2]) != 2 {
		t.Errorf("the parts were changed: %q %q", room, parts)
	}
	if second := Sum(parts...); second != first {
		t.Errorf("the second time %08x, the first time %08x", second, first)
	}
}

// P1.1: Join.

func TestJoinOfAnyNumbers(t *testing.T) {
	r := rand.New(rand.NewSource(2))
	numbers := []uint32{0, 1, 2, 0x80000000, 0x7fffffff, 0xffffffff, 0x82f63b78, 0xe3069283}
	for range 8 {
		numbers = append(numbers, r.Uint32())
	}
	for _, a := range numbers {
		for _, b := range numbers {
			for n := range 40 {
				if got, want := Join(a, b, n), zeros(a, n)^b; got != want {
					t.Errorf("Join(%x, %x, %d) is %08x, not %08x", a, b, n, got, want)
				}
			}
		}
	}
}

func TestJoinOfEachBit(t *testing.T) {
	for bit := range 32 {
		for _, n := range []int{1, 2, 3, 4, 5, 255, 256, 257, 1000, longest} {
			a := uint32(1) << bit
			if got, want := Join(a, 0, n), zeros(a, n); got != want {
				t.Errorf("Join(%x, 0, %d) is %08x, not %08x", a, n, got, want)
			}
		}
	}
}

func TestJoinOfNBelowOne(t *testing.T) {
	for _, n := range []int{0, -1, -2, -8, -1 << 31, -1<<31 - 1, math.MinInt + 1, math.MinInt} {
		if got := Join(0x12345678, 0xf00dcafe, n); got != 0x12345678^0xf00dcafe {
			t.Errorf("n = %d: %08x", n, got)
		}
	}
}

func TestJoinOfGreatN(t *testing.T) {
	r := rand.New(rand.NewSource(3))
	for range 200 {
		a := r.Uint32()
		m, k := int(r.Int63n(1<<62)), int(r.Int63n(1<<62))
		if got, want := Join(Join(a, 0, m), 0, k), Join(a, 0, m+k); got != want {
			t.Errorf("%d bytes and %d bytes: %08x, not %08x", m, k, got, want)
		}
		// Behind 2^31 - 1 bytes 0 the register comes round, and MaxInt is one more than a multiple of that.
		if got := Join(a, 0, 1<<31-1); got != a {
			t.Errorf("behind 2^31 - 1 bytes %08x is %08x", a, got)
		}
		if got, want := Join(a, 0, math.MaxInt), zeros(a, 1); got != want {
			t.Errorf("behind MaxInt bytes %08x is %08x, not %08x", a, got, want)
		}
	}
}

// P1.1: Put and Get.

func TestPutAndGet(t *testing.T) {
	if got := Put(0x01020304); got != [4]byte{4, 3, 2, 1} {
		t.Errorf("Put is %x", got)
	}
	if got := Get([4]byte{4, 3, 2, 1}); got != 0x01020304 {
		t.Errorf("Get is %08x", got)
	}
	if got := Put(0xe3069283); got != [4]byte{0x83, 0x92, 0x06, 0xe3} {
		t.Errorf("Put is %x", got)
	}
}

func TestPutAndGetThereAndBack(t *testing.T) {
	r := rand.New(rand.NewSource(4))
	sums := []uint32{0, 1, 0xff, 0x100, 0xffff, 0x10000, 0x80000000, 0xffffffff}
	for bit := range 32 {
		sums = append(sums, 1<<bit)
	}
	for range 1000 {
		sums = append(sums, r.Uint32())
	}
	for _, sum := range sums {
		if got := Get(Put(sum)); got != sum {
			t.Errorf("%08x: %08x", sum, got)
		}
		if b := Put(sum ^ 0x5a5a5a5a); Put(Get(b)) != b {
			t.Errorf("%x: %x", b, Put(Get(b)))
		}
	}
}

// P1.1: Fits and Close.

func TestFitsOfShortTexts(t *testing.T) {
	closed := Close(nil)
	for n := range 4 {
		for _, text := range [][]byte{make([]byte, n), closed[:n], bytes.Repeat([]byte{0xff}, n)} {
			if Fits(text) {
				t.Errorf("%x fits", text)
			}
		}
	}
	if Fits(nil) {
		t.Error("nil fits")
	}
}

func TestFitsOfFourBytes(t *testing.T) {
	if !Fits([]byte{0, 0, 0, 0}) {
		t.Error("the sum of nothing doesn't fit")
	}
	for bit := range 32 {
		text := make([]byte, 4)
		turn(text, bit)
		if Fits(text) {
			t.Errorf("%x fits", text)
		}
	}
}

func TestFitsLooksAtTheLastFourBytes(t *testing.T) {
	if !Fits([]byte("123456789\x83\x92\x06\xe3")) {
		t.Error("the example doesn't fit")
	}
	for _, wrong := range []string{
		"123456789\xe3\x06\x92\x83", // the high byte first
		"\x83\x92\x06\xe3123456789",
		"123456789\x83\x92\x06\xe3\x00",
		"123456789\x83\x92\x06",
		"12345678\x83\x92\x06\xe3",
		"123456789",
	} {
		if Fits([]byte(wrong)) {
			t.Errorf("%q fits", wrong)
		}
	}
}

func TestFitsChangesNothing(t *testing.T) {
	room := append(Close([]byte("abc")), 1, 2, 3)
	before := slices.Clone(room)
	if !Fits(room[:7]) || !bytes.Equal(room, before) {
		t.Errorf("%x became %x", before, room)
	}
}

func TestCloseOfAnEmptyText(t *testing.T) {
	for _, text := range [][]byte{nil, {}} {
		if got := Close(text); !bytes.Equal(got, []byte{0, 0, 0, 0}) {
			t.Errorf("Close is %x", got)
		}
	}
}

func TestClosePutsTheSumBehind(t *testing.T) {
	if got := Close([]byte("123456789")); string(got) != "123456789\x83\x92\x06\xe3" {
		t.Errorf("Close is %q", got)
	}
	r := rand.New(rand.NewSource(5))
	for n := range 300 {
		text := randomText(r, n)
		sum := Put(slowSum(text))
		if got, want := Close(text), append(slices.Clone(text), sum[:]...); !bytes.Equal(got, want) {
			t.Errorf("Close(%x) is %x", text, got)
		}
	}
}

func TestCloseIsNewMemory(t *testing.T) {
	room := []byte("abcdefghijklmnop")
	for n := range len(room) + 1 {
		text := room[:n]
		closed := Close(text)
		if string(room) != "abcdefghijklmnop" {
			t.Fatalf("closing %d bytes made the list %q", n, room)
		}
		for i := range closed {
			closed[i] ^= 0xff
		}
		closed = append(closed, "spare room"...)
		if string(room) != "abcdefghijklmnop" {
			t.Fatalf("changing what closing %d bytes answered made the list %q", n, room)
		}
		second := Close(text)
		room[0] ^= 1
		if !Fits(second) {
			t.Fatalf("changing the list changed what closing %d bytes had answered", n)
		}
		room[0] ^= 1
	}
}

// P1.2: how a text is parted doesn't matter.

func TestEveryPartingInThree(t *testing.T) {
	text := randomText(rand.New(rand.NewSource(6)), 40)
	want := slowSum(text)
	for i := range len(text) + 1 {
		for j := i; j <= len(text); j++ {
			a, b, c := text[:i], text[i:j], text[j:]
			if got := Sum(a, b, c); got != want {
				t.Errorf("parted at %d and %d: %08x, not %08x", i, j, got, want)
			}
			if got := Join(Join(Sum(a), Sum(b), len(b)), Sum(c), len(c)); got != want {
				t.Errorf("joined at %d and %d: %08x, not %08x", i, j, got, want)
			}
			if got := Join(Sum(a), Join(Sum(b), Sum(c), len(c)), len(b)+len(c)); got != want {
				t.Errorf("joined from behind at %d and %d: %08x, not %08x", i, j, got, want)
			}
		}
	}
}

func TestAnyParting(t *testing.T) {
	r := rand.New(rand.NewSource(7))
	for range 300 {
		text := randomText(r, r.Intn(500))
		var parts [][]byte
		for left := text; len(left) > 0; {
			n := r.Intn(min(len(left), 9) + 1)
			parts = append(parts, left[:n], nil, []byte{})
			left = left[n:]
		}
		if got, want := Sum(parts...), slowSum(text); got != want {
			t.Errorf("%d bytes in %d parts: %08x, not %08x", len(text), len(parts), got, want)
		}
	}
}

func TestPartingIntoBytes(t *testing.T) {
	text := randomText(rand.New(rand.NewSource(8)), 5000)
	if got, want := Sum(slices.Collect(slices.Chunk(text, 1))...), Sum(text); got != want {
		t.Errorf("%08x, not %08x", got, want)
	}
}

// P1.3: a closed text fits, and with one, two or three bits turned it doesn't.

func TestClosedTextsFit(t *testing.T) {
	r := rand.New(rand.NewSource(9))
	for n := range 400 {
		if !Fits(Close(randomText(r, n))) {
			t.Errorf("%d bytes: doesn't fit", n)
		}
	}
	for _, n := range []int{longest - 4, longest - 3, 1 << 20} {
		if !Fits(Close(randomText(r, n))) || !Fits(Close(make([]byte, n))) {
			t.Errorf("%d bytes: doesn't fit", n)
		}
	}
}

// turnUpTo turns each choice of one to most bits, from a bit on, and tells those that fit.
func turnUpTo(t *testing.T, closed []byte, from, most int) {
	for bit := from; bit < 8*len(closed); bit++ {
		turn(closed, bit)
		if Fits(closed) {
			t.Errorf("%x fits, bit %d turned last", closed, bit)
		}
		if most > 1 {
			turnUpTo(t, closed, bit+1, most-1)
		}
		turn(closed, bit)
	}
}

func TestTurnedBitsOfShortTexts(t *testing.T) {
	r := rand.New(rand.NewSource(10))
	for n := range 7 {
		turnUpTo(t, Close(randomText(r, n)), 0, 3)
	}
	turnUpTo(t, Close(randomText(r, 40)), 0, 2)
	turnUpTo(t, Close(randomText(r, 1000)), 0, 1)
}

func TestTurnedBitsOfTheLongestText(t *testing.T) {
	r := rand.New(rand.NewSource(11))
	closed := Close(randomText(r, longest-4))
	choices := [][]int{{0}, {8*longest - 1}, {8*longest - 33}, {8*longest - 32}, {0, 8*longest - 1}, {0, 1, 2}, {0, 1, 8*longest - 1}, {8*longest - 3, 8*longest - 2, 8*longest - 1}}
	for range 300 {
		choices = append(choices, r.Perm(8 * longest)[:1+r.Intn(3)])
	}
	for _, turned := range choices {
		for _, bit := range turned {
			turn(closed, bit)
		}
		if Fits(closed) {
			t.Errorf("fits with the bits %d turned", turned)
		}
		for _, bit := range turned {
			turn(closed, bit)
		}
	}
	if !Fits(closed) {
		t.Error("doesn't fit with no bit turned")
	}
}

// A turned bit changes what is held against the sum, and several bits change
// it by the exclusive or of what each one does. So it is enough that what each
// one does has an odd number of bits (then neither one nor three can leave it
// as it was) and that no two do the same (then no two can).
func TestEveryTurnedBitOfTheLongestText(t *testing.T) {
	seen := make(map[uint32]bool, 8*longest)
	look := func(does uint32, where string, bit, behind int) {
		if bits.OnesCount32(does)%2 == 0 {
			t.Fatalf("bit %d of %s, %d bytes behind it: %08x", bit, where, behind, does)
		}
		if seen[does] {
			t.Fatalf("bit %d of %s, %d bytes behind it: as another one", bit, where, behind)
		}
		seen[does] = true
	}
	for bit := range 32 {
		b := Put(0)
		turn(b[:], bit)
		look(Get(b), "the sum", bit, 0)
	}
	for bit := range 8 {
		does := Sum([]byte{1 << bit}) ^ Sum([]byte{0})
		for behind := range longest - 4 {
			look(does, "the text", bit, behind)
			does = Join(does, 0, 1)
		}
	}
}
