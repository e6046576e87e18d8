package path

import (
	"math"
	"math/rand"
	"sync"
	"testing"

	"weftline/api"
	"weftline/cwnd"
	"weftline/rto"
)

// estimates is estimates that are good, at the edges too.
var estimates = []rto.Estimate{
	{Wait: 30},
	{Wait: 10},
	{Wait: 600},
	{Wait: 299},
	{Wait: 300},
	{Wait: 301},
	{Smooth: 64, Spread: 16, Wait: 24, Measured: true},
	{Wait: 10, Measured: true},
	{Smooth: 8 * 65535, Spread: 4 * 65535, Wait: 600, Measured: true},
	{Smooth: 524273, Spread: 3, Wait: 17, Measured: true},
}

// badEstimates is estimates that aren't good.
var badEstimates = []rto.Estimate{
	{},
	{Wait: 9},
	{Wait: 601},
	{Wait: math.MinInt64},
	{Wait: math.MaxInt64},
	{Wait: 30, Smooth: 1},
	{Wait: 30, Spread: 1},
	{Wait: 30, Smooth: -1, Measured: true},
	{Wait: 30, Smooth: 524281, Measured: true},
	{Wait: 30, Spread: -1, Measured: true},
	{Wait: 30, Spread: 262141, Measured: true},
}

// windows is windows that are good, at the edges too.
var windows = []cwnd.Window{
	{Size: 512, Threshold: 2000},
	{Size: 128, Threshold: 128},
	{Size: 8192, Threshold: 8192, Count: 1 << 31},
	{Size: 2661, Threshold: 2000, Count: 7},
	{Size: 1024, Threshold: 128, Count: 1023},
}

// badWindows is windows that aren't good.
var badWindows = []cwnd.Window{
	{},
	{Size: 127, Threshold: 2000},
	{Size: 8193, Threshold: 2000},
	{Size: 700, Threshold: 127},
	{Size: 700, Threshold: 8193},
	{Size: 700, Threshold: 2000, Count: -1},
	{Size: 700, Threshold: 2000, Count: 1<<31 + 1},
}

// addresses is numbers that are addresses.
var addresses = []api.Addr{1, 2, 9, 1 << 30, 1<<31 - 2, 1<<31 - 1}

// noAddresses is numbers that aren't.
var noAddresses = []api.Addr{0, -1, math.MinInt64, 1 << 31, 1<<31 + 1, 1<<32 + 9, math.MaxInt64}

// ticks is numbers that are ticks.
var ticks = []int{0, 1, 99, 100, 120, 65535, 65536, 65634, 65635, 65636, 1<<62 - 65536, 1<<62 - 1, 1 << 62}

// noTicks is numbers that aren't.
var noTicks = []int{-1, -100, math.MinInt64, 1<<62 + 1, math.MaxInt64}

// of is a path with the first estimate and window, as the chapter tells them.
func of(a api.Addr, errors int, nonce uint32, sent int) Path {
	e := rto.Estimate{Wait: 30}
	w := cwnd.Window{Size: 512, Threshold: 2000}
	return Path{Estimate: e, Window: w, Addr: a, Errors: errors, Nonce: nonce, Sent: sent}
}

// good is paths that are good, at the edges too.
func good() []Path {
	list := []Path{
		of(9, 0, 0, 0), of(1, 5, 0, 0), of(1<<31-1, 6, 0, 0), of(9, 99, 0, 0), of(9, 100, 0, 0), of(9, 4, 0, 0),
		of(9, 0, 1, 0), of(9, 5, 77, 100), of(9, 6, math.MaxUint32, 1<<62), of(9, 100, 1<<31, 1<<62-1),
	}
	for i, e := range estimates {
		for k, w := range windows {
			list = append(list, Path{Estimate: e, Window: w, Addr: addresses[i%len(addresses)], Errors: 4 + k})
			list = append(list, Path{Estimate: e, Window: w, Addr: 3, Nonce: 77, Sent: ticks[(i+k)%len(ticks)]})
		}
	}
	return list
}

// notGood is paths that aren't good, each by one thing alone, but for the first ones.
func notGood() []Path {
	list := []Path{
		{}, {Addr: 9},
		of(9, -1, 0, 0), of(9, 101, 0, 0), of(9, math.MinInt64, 0, 0), of(9, math.MaxInt64, 0, 0), of(9, 1<<32, 0, 0),
		of(9, -1, 77, 100), of(9, 101, 77, 100),
		of(9, 0, 0, 1), of(9, 0, 0, 1<<62), of(9, 0, 0, -1), of(9, 3, 0, math.MaxInt64),
	}
	for _, a := range noAddresses {
		list = append(list, of(a, 0, 0, 0), of(a, 0, 77, 100))
	}
	for _, n := range noTicks {
		list = append(list, of(9, 0, 77, n))
	}
	for _, e := range badEstimates {
		list = append(list, Path{Estimate: e, Window: cwnd.First(), Addr: 9, Errors: 2, Nonce: 77, Sent: 100})
	}
	for _, w := range badWindows {
		list = append(list, Path{Estimate: rto.First(), Window: w, Addr: 9, Errors: 2, Nonce: 77, Sent: 100})
	}
	return list
}

// all is all paths of the lists above.
func all() []Path { return append(good(), notGood()...) }

// slowGood is whether a path is good, by the chapters' words.
func slowGood(p Path) bool {
	wait := 10 <= p.Wait && p.Wait <= 600
	measured := 0 <= p.Smooth && p.Smooth <= 524280 && 0 <= p.Spread && p.Spread <= 262140
	if !p.Measured {
		measured = p.Smooth == 0 && p.Spread == 0
	}
	sizes := 128 <= p.Size && p.Size <= 8192 && 128 <= p.Threshold && p.Threshold <= 8192
	window := sizes && 0 <= p.Count && p.Count <= 2147483648
	addr := 1 <= p.Addr && p.Addr <= 2147483647
	errors := 0 <= p.Errors && p.Errors <= 100
	sent := 0 <= p.Sent && p.Sent <= 4611686018427387904
	if p.Nonce == 0 {
		sent = p.Sent == 0
	}
	return wait && measured && window && addr && errors && sent
}

// slowSilent is the path with one error more and twice the wait.
func slowSilent(p Path) Path {
	if p.Errors < 100 {
		p.Errors++
	}
	p.Wait += p.Wait
	if p.Wait > 600 {
		p.Wait = 600
	}
	return p
}

// slowFailed is Failed by the chapters' words.
func slowFailed(p Path) Path {
	if !slowGood(p) {
		return p
	}
	p.Threshold = int(math.Floor(float64(p.Size) / 2))
	if p.Threshold < 512 {
		p.Threshold = 512
	}
	p.Size, p.Count = 128, 0
	return slowSilent(p)
}

// slowHeard is Heard by the chapter's words.
func slowHeard(p Path) Path {
	if slowGood(p) {
		p.Errors = 0
	}
	return p
}

// slowBeat is Beat by the chapter's words.
func slowBeat(p Path, nonce uint32, now int) (Path, error) {
	switch {
	case !slowGood(p), nonce == 0, now < 0, now > 4611686018427387904:
		return Path{}, api.ErrRange
	case p.Nonce != 0:
		return Path{}, api.ErrState
	}
	return Path{p.Estimate, p.Window, p.Addr, p.Errors, nonce, now}, nil
}

// slowBeaten is Beaten by the chapters' words.
func slowBeaten(p Path, nonce uint32, now int) (Path, error) {
	switch {
	case !slowGood(p):
		return Path{}, api.ErrRange
	case nonce == 0, p.Nonce == 0, p.Nonce != nonce:
		return Path{}, api.ErrNone
	case now > 4611686018427387904, p.Sent > now:
		return Path{}, api.ErrRange
	}
	long := now - p.Sent
	if long > 65535 {
		long = 65535
	}
	return Path{Estimate: slowTook(p.Estimate, long), Window: p.Window, Addr: p.Addr}, nil
}

// slowTook is the estimate behind an answer that took so long, by chapter 11.
func slowTook(e rto.Estimate, long int) rto.Estimate {
	if !e.Measured {
		e = rto.Estimate{Smooth: 8 * long, Spread: 2 * long, Measured: true}
	} else {
		off := long - e.Smooth>>3
		e.Smooth += off
		e.Spread -= e.Spread >> 2
		if off < 0 {
			off = -off
		}
		e.Spread += off
	}
	e.Wait = e.Smooth>>3 + e.Spread
	if e.Wait < 10 {
		e.Wait = 10
	}
	if e.Wait > 600 {
		e.Wait = 600
	}
	return e
}

// slowMissed is Missed by the chapter's words.
func slowMissed(p Path) Path {
	if !slowGood(p) || p.Nonce == 0 {
		return p
	}
	p.Nonce = 0
	p.Sent = 0
	return slowSilent(p)
}

// slowTo is To by the chapter's words.
func slowTo(p Path, a api.Addr) (Path, error) {
	if !slowGood(p) || a < 1 || a > 2147483647 {
		return Path{}, api.ErrRange
	}
	return Path{p.Estimate, p.Window, a, p.Errors, p.Nonce, p.Sent}, nil
}

// same tells of a path that isn't the one that is asked.
func same(t *testing.T, name string, p, got, want Path) {
	t.Helper()
	if got != want {
		t.Error(name, p, "is", got, "not", want)
	}
}

// sameOr tells of a path or error that isn't the one that is asked.
func sameOr(t *testing.T, name string, p, got Path, err error, want Path, wanted error) {
	t.Helper()
	if got != want || err != wanted {
		t.Error(name, p, "is", got, err, "not", want, wanted)
	}
}

// checkAll holds all calls of a path against the slow ones.
func checkAll(t *testing.T, p Path, nonce uint32, now int, a api.Addr) {
	t.Helper()
	if Good(p) != slowGood(p) {
		t.Error("Good", p)
	}
	if p.Active() != (slowGood(p) && p.Errors < 6) {
		t.Error("Active", p)
	}
	same(t, "Failed", p, p.Failed(), slowFailed(p))
	same(t, "Heard", p, p.Heard(), slowHeard(p))
	same(t, "Missed", p, p.Missed(), slowMissed(p))
	got, err := p.Beat(nonce, now)
	want, wanted := slowBeat(p, nonce, now)
	sameOr(t, "Beat", p, got, err, want, wanted)
	got, err = p.Beaten(nonce, now)
	want, wanted = slowBeaten(p, nonce, now)
	sameOr(t, "Beaten", p, got, err, want, wanted)
	got, err = p.To(a)
	want, wanted = slowTo(p, a)
	sameOr(t, "To", p, got, err, want, wanted)
}

// anyGood is some good path; edges come often.
func anyGood(r *rand.Rand) Path {
	p := Path{Estimate: rto.First(), Window: cwnd.First(), Addr: api.Addr(1 + r.Intn(1<<31-1))}
	if r.Intn(2) == 0 {
		p.Estimate = rto.Estimate{Smooth: r.Intn(524281), Spread: r.Intn(262141), Wait: 10 + r.Intn(591), Measured: true}
	}
	if r.Intn(2) == 0 {
		p.Window = cwnd.Window{Size: 128 + r.Intn(8065), Threshold: 128 + r.Intn(8065), Count: r.Intn(1<<31 + 1)}
	}
	if r.Intn(3) == 0 {
		p.Addr = addresses[r.Intn(len(addresses))]
	}
	p.Errors = r.Intn(9)
	if r.Intn(3) == 0 {
		p.Errors = 94 + r.Intn(7)
	}
	if r.Intn(2) == 0 {
		p.Nonce, p.Sent = 1+uint32(r.Intn(3)), anyTick(r)
	}
	return p
}

// anyTick is some tick; edges come often.
func anyTick(r *rand.Rand) int {
	switch r.Intn(3) {
	case 0:
		return r.Intn(70000)
	case 1:
		return 1<<62 - r.Intn(70000)
	}
	return ticks[r.Intn(len(ticks))]
}

// spoilt is a path of which one thing may not be good any more.
func spoilt(r *rand.Rand, p Path) Path {
	switch r.Intn(7) {
	case 0:
		p.Estimate = badEstimates[r.Intn(len(badEstimates))]
	case 1:
		p.Window = badWindows[r.Intn(len(badWindows))]
	case 2:
		p.Addr = noAddresses[r.Intn(len(noAddresses))]
	case 3:
		p.Errors = []int{-1, 101, -100, 1 << 40}[r.Intn(4)]
	case 4:
		p.Sent = noTicks[r.Intn(len(noTicks))]
	case 5:
		p.Nonce, p.Sent = 0, 1+r.Intn(1<<62)
	}
	return p
}

// near is some number, often near to another one.
func near(r *rand.Rand, to int) int {
	switch r.Intn(6) {
	case 0:
		return to - 2 + r.Intn(5)
	case 1:
		return to + 65533 + r.Intn(5)
	case 2:
		return to + r.Intn(900)
	case 3:
		return noTicks[r.Intn(len(noTicks))]
	}
	return anyTick(r)
}

// P13.1: New is a path of each address, with the first estimate and window; of
// no address it is ErrRange.
func TestNew(t *testing.T) {
	for _, a := range addresses {
		p, err := New(a)
		if p != of(a, 0, 0, 0) || err != nil || !Good(p) || !p.Active() {
			t.Error(a, p, err)
		}
	}
	for _, a := range noAddresses {
		if p, err := New(a); p != (Path{}) || err != api.ErrRange {
			t.Error(a, p, err)
		}
	}
}

// P13.1: Good tells the bounds, each at its edge.
func TestGood(t *testing.T) {
	for _, p := range good() {
		if !Good(p) {
			t.Error("good:", p)
		}
	}
	for _, p := range notGood() {
		if Good(p) {
			t.Error("not good:", p)
		}
	}
}

// P13.1: Active is whether there are at most 5 errors; one that isn't good isn't active.
func TestActive(t *testing.T) {
	for n := range 101 {
		if got := of(9, n, 0, 0).Active(); got != (n <= 5) {
			t.Error(n, got)
		}
		if got := of(9, n, 77, 100).Active(); got != (n <= 5) {
			t.Error(n, got)
		}
	}
	for _, p := range notGood() {
		if p.Active() {
			t.Error(p)
		}
	}
}

// P13.1: Failed makes one error more, twice the wait, and the window of one
// whose time is up, as another program reckoned; a beat stays on its way.
func TestFailed(t *testing.T) {
	p := of(9, 0, 77, 100)
	p.Size = 2661
	for i, c := range []struct{ errors, wait, threshold int }{
		{1, 60, 1330}, {2, 120, 512}, {3, 240, 512}, {4, 480, 512}, {5, 600, 512}, {6, 600, 512}, {7, 600, 512},
	} {
		p = p.Failed()
		want := of(9, c.errors, 77, 100)
		want.Wait, want.Size, want.Threshold = c.wait, 128, c.threshold
		if p != want {
			t.Fatal(i, p, want)
		}
	}
	if q := of(9, 99, 0, 0).Failed(); q.Errors != 100 {
		t.Error(q)
	}
	if q := of(9, 100, 0, 0).Failed(); q.Errors != 100 || q.Wait != 60 || q.Size != 128 {
		t.Error(q)
	}
}

// P13.1: Failed keeps what was measured, and forgets what was counted.
func TestFailedMeasured(t *testing.T) {
	e := rto.Estimate{Smooth: 64, Spread: 16, Wait: 24, Measured: true}
	p := Path{Estimate: e, Window: cwnd.Window{Size: 8192, Threshold: 128, Count: 1 << 31}, Addr: 3}
	e.Wait = 48
	want := Path{Estimate: e, Window: cwnd.Window{Size: 128, Threshold: 4096}, Addr: 3, Errors: 1}
	same(t, "Failed", p, p.Failed(), want)
}

// P13.1: Heard takes all errors away, and nothing else.
func TestHeard(t *testing.T) {
	for _, n := range []int{0, 1, 5, 6, 99, 100} {
		p := of(9, n, 77, 100)
		p.Wait, p.Size = 600, 128
		want := p
		want.Errors = 0
		same(t, "Heard", p, p.Heard(), want)
	}
}

// P13.1: Beat puts a beat on its way at the edges of nonces and ticks, and
// refuses what the chapter names, the first one first.
func TestBeat(t *testing.T) {
	for _, c := range []struct {
		p     Path
		nonce uint32
		now   int
		want  error
	}{
		{of(9, 3, 0, 0), 77, 100, nil},
		{of(9, 100, 0, 0), 1, 0, nil},
		{of(9, 0, 0, 0), math.MaxUint32, 1 << 62, nil},
		{of(9, 0, 0, 0), 0, 100, api.ErrRange},
		{of(9, 0, 0, 0), 77, -1, api.ErrRange},
		{of(9, 0, 0, 0), 77, math.MinInt64, api.ErrRange},
		{of(9, 0, 0, 0), 77, 1<<62 + 1, api.ErrRange},
		{of(9, 0, 0, 0), 77, math.MaxInt64, api.ErrRange},
		{of(9, 0, 77, 100), 78, 100, api.ErrState},
		{of(9, 0, 77, 100), 77, 100, api.ErrState},
		{of(9, 0, 77, 0), 78, 100, api.ErrState},
		{of(9, 0, 77, 100), 0, 100, api.ErrRange},
		{of(9, 0, 77, 100), 78, -1, api.ErrRange},
		{of(9, 0, 77, 100), 78, 1<<62 + 1, api.ErrRange},
		{of(0, 0, 0, 0), 77, 100, api.ErrRange},
		{of(0, 0, 77, 100), 78, 100, api.ErrRange},
		{of(9, 101, 77, 100), 78, 100, api.ErrRange},
	} {
		want := Path{}
		if c.want == nil {
			want = of(9, c.p.Errors, c.nonce, c.now)
		}
		got, err := c.p.Beat(c.nonce, c.now)
		sameOr(t, "Beat", c.p, got, err, want, c.want)
	}
}

// P13.1: Beaten answers the estimate that another program reckoned.
func TestBeaten(t *testing.T) {
	for _, c := range []struct {
		sent, now            int
		smooth, spread, wait int
	}{
		{100, 100, 0, 0, 10},
		{100, 103, 24, 6, 10},
		{100, 104, 32, 8, 12},
		{100, 120, 160, 40, 60},
		{100, 300, 1600, 400, 600},
		{0, 65534, 524272, 131068, 600},
		{0, 65535, 524280, 131070, 600},
		{0, 65536, 524280, 131070, 600},
		{100, 65635, 524280, 131070, 600},
		{100, 65636, 524280, 131070, 600},
		{0, 1 << 62, 524280, 131070, 600},
		{1 << 62, 1 << 62, 0, 0, 10},
		{1<<62 - 20, 1 << 62, 160, 40, 60},
	} {
		p := of(9, 7, 77, c.sent)
		p.Size, p.Count = 700, 5
		want := of(9, 0, 0, 0)
		want.Size, want.Count = 700, 5
		want.Estimate = rto.Estimate{Smooth: c.smooth, Spread: c.spread, Wait: c.wait, Measured: true}
		got, err := p.Beaten(77, c.now)
		sameOr(t, "Beaten", p, got, err, want, nil)
	}
}

// P13.1: Beaten goes on from what was measured.
func TestBeatenMeasured(t *testing.T) {
	p := of(9, 0, 0, 0)
	for i, c := range []struct{ took, smooth, spread, wait int }{
		{8, 64, 16, 24}, {8, 64, 12, 20}, {20, 76, 21, 30}, {0, 67, 25, 33}, {1000, 1059, 1011, 600},
	} {
		q, err := p.Beat(uint32(i+1), 50*i)
		if err != nil {
			t.Fatal(i, err)
		}
		q, err = q.Failed().Beaten(uint32(i+1), 50*i+c.took)
		want := rto.Estimate{Smooth: c.smooth, Spread: c.spread, Wait: c.wait, Measured: true}
		if err != nil || q.Estimate != want || q.Errors != 0 || q.Nonce != 0 || q.Sent != 0 {
			t.Fatal(i, q, err)
		}
		p = q
	}
}

// P13.1: Beaten refuses what the chapter names, the first one first.
func TestBeatenRefused(t *testing.T) {
	for _, c := range []struct {
		p     Path
		nonce uint32
		now   int
		want  error
	}{
		{of(9, 0, 77, 100), 78, 120, api.ErrNone},
		{of(9, 0, 77, 100), 0, 120, api.ErrNone},
		{of(9, 0, 77, 100), 78, 99, api.ErrNone},
		{of(9, 0, 77, 100), 0, math.MinInt64, api.ErrNone},
		{of(9, 0, 0, 0), 77, 120, api.ErrNone},
		{of(9, 0, 0, 0), 0, 120, api.ErrNone},
		{of(9, 0, 0, 0), 0, 0, api.ErrNone},
		{of(9, 0, 0, 0), 0, -1, api.ErrNone},
		{of(9, 0, 77, 100), 77, 99, api.ErrRange},
		{of(9, 0, 77, 0), 77, -1, api.ErrRange},
		{of(9, 0, 77, 100), 77, math.MinInt64, api.ErrRange},
		{of(9, 0, 77, 100), 77, 1<<62 + 1, api.ErrRange},
		{of(9, 0, 77, 1<<62), 77, 1<<62 + 1, api.ErrRange},
		{of(9, 0, 77, 100), 77, math.MaxInt64, api.ErrRange},
		{of(0, 0, 77, 100), 77, 120, api.ErrRange},
		{of(0, 0, 77, 100), 78, 120, api.ErrRange},
		{of(9, 101, 77, 100), 0, 120, api.ErrRange},
		{Path{}, 0, 0, api.ErrRange},
	} {
		got, err := c.p.Beaten(c.nonce, c.now)
		sameOr(t, "Beaten", c.p, got, err, Path{}, c.want)
	}
}

// P13.1: Missed makes one error more, twice the wait, and no beat; the window
// stays, and so does all where none is on its way.
func TestMissed(t *testing.T) {
	for _, c := range []struct{ errors, wait, more, twice int }{
		{0, 30, 1, 60}, {5, 300, 6, 600}, {6, 301, 7, 600}, {98, 10, 99, 20}, {99, 299, 100, 598}, {100, 600, 100, 600},
	} {
		p := of(9, c.errors, 77, 100)
		p.Wait, p.Size, p.Count = c.wait, 700, 5
		want := of(9, c.more, 0, 0)
		want.Wait, want.Size, want.Count = c.twice, 700, 5
		same(t, "Missed", p, p.Missed(), want)
		same(t, "Missed", want, want.Missed(), want)
		p.Sent = 0
		same(t, "Missed", p, p.Missed(), want)
	}
}

// P13.1: To changes the address alone.
func TestTo(t *testing.T) {
	for _, a := range addresses {
		p := of(9, 100, 77, 100)
		p.Wait, p.Size, p.Count = 600, 700, 5
		want := p
		want.Addr = a
		got, err := p.To(a)
		sameOr(t, "To", p, got, err, want, nil)
		for _, p := range notGood() {
			got, err := p.To(a)
			sameOr(t, "To", p, got, err, Path{}, api.ErrRange)
		}
	}
	for _, a := range noAddresses {
		p := of(9, 100, 77, 100)
		got, err := p.To(a)
		sameOr(t, "To", p, got, err, Path{}, api.ErrRange)
	}
}

// P13.1: of a path that isn't good Failed, Heard and Missed are the path as it is.
func TestNotGoodStays(t *testing.T) {
	for _, p := range notGood() {
		same(t, "Failed", p, p.Failed(), p)
		same(t, "Heard", p, p.Heard(), p)
		same(t, "Missed", p, p.Missed(), p)
	}
}

// P13.1: all calls answer by the chapter's words, at all edges.
func TestAllAtEdges(t *testing.T) {
	nows := append(append([]int{}, ticks...), noTicks...)
	addrs := append(append([]api.Addr{}, addresses...), noAddresses...)
	for _, p := range all() {
		for _, nonce := range []uint32{0, 1, 76, 77, 78, 1 << 31, math.MaxUint32} {
			for i, now := range append(nows, p.Sent-1, p.Sent, p.Sent+1, p.Sent+65535, p.Sent+65536) {
				checkAll(t, p, nonce, now, addrs[i%len(addrs)])
			}
		}
	}
}

// P13.1: all calls answer by the chapter's words, of any path; each answer comes.
func TestAllOfAny(t *testing.T) {
	r := rand.New(rand.NewSource(13))
	beats, beaten, made := map[error]int{}, map[error]int{}, map[bool]int{}
	for range 300000 {
		p := anyGood(r)
		if r.Intn(4) == 0 {
			p = spoilt(r, p)
		}
		nonce, now, a := uint32(r.Intn(4)), near(r, p.Sent), api.Addr(near(r, 1<<31))
		checkAll(t, p, nonce, now, a)
		_, err := p.Beat(nonce, now)
		beats[err]++
		_, err = p.Beaten(nonce, now)
		beaten[err]++
		_, err = p.To(a)
		made[err == nil]++
	}
	for _, n := range []int{
		beats[nil], beats[api.ErrRange], beats[api.ErrState],
		beaten[nil], beaten[api.ErrRange], beaten[api.ErrNone], made[true], made[false],
	} {
		if n < 1000 {
			t.Error(beats, beaten, made)
		}
	}
}

// P13.1: what is asked isn't changed by it.
func TestAskedStaysSame(t *testing.T) {
	for _, p := range all() {
		was := p
		Good(p)
		p.Active()
		p.Failed()
		p.Heard()
		p.Beat(5, 120)
		p.Beaten(77, 1<<62)
		p.Missed()
		p.To(4)
		if p != was {
			t.Error(was, p)
		}
	}
}

// P13.1: paths are asked from several sides at once.
func TestSeveralAtOnce(t *testing.T) {
	var sides sync.WaitGroup
	for n := range 8 {
		sides.Add(1)
		go func() {
			defer sides.Done()
			r := rand.New(rand.NewSource(int64(n)))
			p := of(api.Addr(n+1), 0, 0, 0)
			now := 0
			for range 1000 {
				now += r.Intn(100)
				checkAll(t, p, 77, now, api.Addr(n+1))
				p = step(r, p, now)
			}
		}()
	}
	sides.Wait()
}

// step is a good path, a step behind another one.
func step(r *rand.Rand, p Path, now int) Path {
	next, err := p, error(nil)
	switch r.Intn(8) {
	case 0, 1:
		next = p.Failed()
	case 2:
		next = p.Missed()
	case 3:
		next, err = p.To(api.Addr(1 + r.Intn(1<<31-1)))
	case 4, 5:
		next, err = p.Beat(77, now)
	case 6:
		next, err = p.Beaten(77, now)
	default:
		if r.Intn(30) == 0 {
			next = p.Heard()
		}
	}
	if err != nil {
		return p
	}
	return next
}

// P13.2: of good ones good ones come, step by step.
func TestGoodComeOfGood(t *testing.T) {
	r := rand.New(rand.NewSource(132))
	active, not, most := 0, 0, 0
	for range 500 {
		p, now := anyGood(r), anyTick(r)
		for range 400 {
			now = min(now+r.Intn(2000), 1<<62)
			p = step(r, p, now)
			if !slowGood(p) || !Good(p) {
				t.Fatal(p)
			}
			if p.Active() {
				active++
			} else {
				not++
			}
			if p.Errors == 100 {
				most++
			}
		}
	}
	if active < 1000 || not < 1000 || most < 1000 {
		t.Error(active, not, most)
	}
}

// P13.2: of each good path all calls that don't refuse answer good ones.
func TestGoodComeOfEach(t *testing.T) {
	for _, p := range good() {
		list := []Path{p.Failed(), p.Heard(), p.Missed()}
		for _, now := range append(ticks[:len(ticks):len(ticks)], p.Sent) {
			if q, err := p.Beat(5, now); err == nil {
				list = append(list, q)
			}
			if q, err := p.Beaten(p.Nonce, now); err == nil {
				list = append(list, q)
			}
		}
		for _, a := range addresses {
			if q, err := p.To(a); err == nil {
				list = append(list, q)
			}
		}
		for _, q := range list {
			if !slowGood(q) {
				t.Error(p, q)
			}
		}
	}
}

// P13.2: a path that fails more than five times without being heard isn't
// active; when it is heard, it is.
func TestSixTimes(t *testing.T) {
	for _, p := range good() {
		p = p.Heard()
		for n := 1; n <= 300; n++ {
			p = p.Failed()
			if p.Active() != (n <= 5) || !Good(p) {
				t.Fatal(n, p)
			}
			if !p.Heard().Active() {
				t.Fatal(n, p)
			}
		}
		if p = p.Heard(); !p.Active() || p.Errors != 0 {
			t.Fatal(p)
		}
		for range 5 {
			p = p.Failed()
		}
		if p = p.Heard().Failed(); !p.Active() || p.Errors != 1 {
			t.Fatal(p)
		}
	}
}

// P13.2: beats that don't come back are errors too; one that does is heard.
func TestSixBeats(t *testing.T) {
	p, err := New(9)
	if err != nil {
		t.Fatal(err)
	}
	for n := 1; n <= 300; n++ {
		q, err := p.Beat(uint32(n), 7*n)
		if err != nil || q.Active() != p.Active() {
			t.Fatal(n, q, err)
		}
		if back, err := q.Beaten(uint32(n), 7*n+3); err != nil || !back.Active() || back.Errors != 0 {
			t.Fatal(n, back, err)
		}
		if p = q.Missed(); p.Active() != (n <= 5) || !Good(p) {
			t.Fatal(n, p)
		}
	}
}
