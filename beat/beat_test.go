package beat_test

import (
	"encoding/binary"
	"hash/crc32"
	"math"
	"math/big"
	"slices"
	"strings"
	"testing"

	"breakwater/api"
	"breakwater/beat"
)

// numbers are those that a key or a count may be: at the ends, and where one byte more is needed.
var numbers = []int{1, 2, 7, 16, 17, 255, 256, 257, 65535, 65536, 1<<24 - 1, 1 << 24, 1<<32 - 1, 1 << 32, 1<<32 + 1, api.MaxNumber - 2, api.MaxNumber - 1, api.MaxNumber}

// noNumbers are beside these, and such as a narrower type or six bytes alone would take for one.
var noNumbers = []int{0, -1, -2, -17, -256, api.MaxNumber + 1, api.MaxNumber + 2, 1 << 41, 1<<48 - 1, 1 << 48, 1<<48 + 1, 1 << 62, -1 << 32, -1 << 40, -1 << 48, 1 - 1<<48, math.MaxInt, math.MaxInt - 1, math.MinInt, math.MinInt + 1}

// times are clocks' ones, and spans too: some small ones side by side, those near a type's ends, and those between which an int wraps round.
func times() []int {
	var l []int
	for n := -7; n <= 20; n++ {
		l = append(l, n)
	}
	for _, n := range []int{1 << 15, 1 << 16, 1 << 20, 1 << 31, 1 << 32, 1 << 40, 1 << 53, 1 << 61, 1 << 62, math.MaxInt - 12, math.MaxInt - 5} {
		for k := -2; k <= 2; k++ {
			l = append(l, n+k, -n+k)
		}
	}
	for k := range 4 {
		l = append(l, math.MaxInt-k, math.MinInt+k)
	}
	return l
}

// cmpSum holds a time against two others' sum, which no int need hold.
func cmpSum(now, a, b int) int {
	sum := new(big.Int).Add(big.NewInt(int64(a)), big.NewInt(int64(b)))
	return big.NewInt(int64(now)).Cmp(sum)
}

// isOver and isDead are the chapter's words in numbers that cannot wrap round.
func isOver(lease, asked, now int) bool { return cmpSum(now, asked, max(lease, 0)) > 0 }

func isDead(wait int, w api.Watch, now int) bool {
	return w.Looked && w.Key != 0 && now >= w.Since && cmpSum(now, w.Since, wait) >= 0
}

// looked is the chapter's words once more, of what is seen.
func looked(w api.Watch, key, count, now int) api.Watch {
	if !w.Looked || key != w.Key || count != w.Count {
		return api.Watch{Key: key, Count: count, Since: now, Looked: true}
	}
	return w
}

// bytesOf tells a number's bytes by division alone.
func bytesOf(n, width int) string {
	b := make([]byte, 0, width)
	for range width {
		b = append(b, byte(n%256))
		n /= 256
	}
	return string(b)
}

// summed is a text with its sum behind it, as Go's own library has that: nothing that the program does is leant on.
func summed(s string) string {
	sum := crc32.Checksum([]byte(s), crc32.MakeTable(crc32.Castagnoli))
	return string(binary.LittleEndian.AppendUint32([]byte(s), sum))
}

func sealed(kind int, load string) string {
	return summed(string([]byte{byte(kind), byte(len(load)), byte(len(load) >> 8)}) + load)
}

// leaseOf is the sector by the chapter's words, of any two numbers of six bytes.
func leaseOf(key, count int) string { return sealed(3, bytesOf(key, 6)+bytesOf(count, 6)) }

// harmed are all texts that differ from s in one bit, in its length, or in a byte beside it.
func harmed(s string) []string {
	var l []string
	for i := range 8 * len(s) {
		b := []byte(s)
		b[i/8] ^= 1 << (i % 8)
		l = append(l, string(b))
	}
	for i := range s {
		l = append(l, s[:i], s[i+1:], s[:i]+s[i+1:])
	}
	return append(l, s+"\x00", "\x00"+s, s+s, s+"x", s+strings.Repeat("\x00", api.SectorSize-len(s)))
}

// none are no lease sectors: no sealed ones, sealed ones of another kind or of another load.
func none() []string {
	load := bytesOf(17, 6) + bytesOf(4, 6)
	l := []string{"", "\x00", "\x03", "\x03\x0c\x00", "abc", load, summed(""), summed(load), summed("\x03"), strings.Repeat("\x00", 19), strings.Repeat("\xff", 19), strings.Repeat("\x00", api.SectorSize), strings.Repeat("\x03", api.SectorSize), strings.Repeat("\x00", 1<<20)}
	for kind := range 256 {
		if kind != 3 {
			l = append(l, sealed(kind, load))
		}
	}
	for i := range load {
		l = append(l, sealed(3, load[:i]))
	}
	for _, rest := range []string{"\x00", "x", bytesOf(5, 6), load, strings.Repeat("\x00", 505-12), strings.Repeat("a", 506-12)} {
		l = append(l, sealed(3, load+rest))
	}
	for _, n := range []int{api.MaxNumber + 1, api.MaxNumber + 256, api.MaxNumber + 1<<39, 1 << 41, 1<<48 - 1} {
		l = append(l, leaseOf(n, 4), leaseOf(17, n), leaseOf(n, n), leaseOf(n, 0), leaseOf(0, n))
	}
	return append(l, harmed(leaseOf(17, 4))...)
}

func TestNumbersOfTheChapter(t *testing.T) {
	if api.OK != 0 || api.ErrArg != 2 || api.MaxNumber != 1<<40 || api.SectorSize != 512 {
		t.Error(api.OK, api.ErrArg, api.MaxNumber, api.SectorSize)
	}
}

// P7.1, Bytes.

func TestBytesByHand(t *testing.T) {
	for _, x := range []struct {
		key, count int
		want       string
	}{
		{17, 4, "\x03\x0c\x00" + "\x11\x00\x00\x00\x00\x00" + "\x04\x00\x00\x00\x00\x00"},
		{1, 1, "\x03\x0c\x00" + "\x01\x00\x00\x00\x00\x00" + "\x01\x00\x00\x00\x00\x00"},
		{0x0102030405, 0x0a0b0c0d, "\x03\x0c\x00" + "\x05\x04\x03\x02\x01\x00" + "\x0d\x0c\x0b\x0a\x00\x00"},
		{1 << 40, 1<<40 - 1, "\x03\x0c\x00" + "\x00\x00\x00\x00\x00\x01" + "\xff\xff\xff\xff\xff\x00"},
	} {
		if s, e := beat.Bytes(x.key, x.count); e != api.OK || s != summed(x.want) || len(s) != 19 {
			t.Errorf("%d %d: % x, %d", x.key, x.count, s, e)
		}
	}
}

func TestBytes(t *testing.T) {
	for _, key := range numbers {
		for _, count := range numbers {
			if s, e := beat.Bytes(key, count); e != api.OK || s != leaseOf(key, count) {
				t.Fatalf("%d %d: % x, %d", key, count, s, e)
			}
		}
	}
}

func TestBytesRefuses(t *testing.T) {
	refused := func(key, count int) {
		t.Helper()
		if s, e := beat.Bytes(key, count); e != api.ErrArg || s != "" {
			t.Errorf("%d %d: % x, %d", key, count, s, e)
		}
	}
	for _, no := range noNumbers {
		for _, n := range numbers {
			refused(no, n)
			refused(n, no)
		}
		for _, n := range noNumbers {
			refused(no, n)
		}
	}
}

// P7.1, Seen.

// A sector may have numbers that Bytes would refuse: 0 fits six bytes, and is what is seen.
func TestSeen(t *testing.T) {
	l := append([]int{0}, numbers...)
	for _, key := range l {
		for _, count := range l {
			if k, n := beat.Seen(leaseOf(key, count)); k != key || n != count {
				t.Fatal(key, count, k, n)
			}
		}
	}
}

func TestSeenOfNone(t *testing.T) {
	for _, s := range none() {
		if k, n := beat.Seen(s); k != 0 || n != 0 {
			t.Fatalf("%d bytes % x: %d %d", len(s), s[:min(len(s), 40)], k, n)
		}
	}
	for _, key := range numbers {
		for _, s := range harmed(leaseOf(key, key)) {
			if k, n := beat.Seen(s); k != 0 || n != 0 {
				t.Fatalf("% x: %d %d", s[:min(len(s), 40)], k, n)
			}
		}
	}
}

// Of texts so long that to sum them would be felt.
func TestSeenOfLongTexts(t *testing.T) {
	s := leaseOf(17, 4) + strings.Repeat("x", 1<<26)
	for range 2000 {
		if k, n := beat.Seen(s); k != 0 || n != 0 {
			t.Fatal(k, n)
		}
	}
}

// P7.2, Over.

func TestOverByHand(t *testing.T) {
	for _, x := range []struct {
		lease, asked, now int
		over              bool
	}{
		{3, 10, 9, false}, {3, 10, 10, false}, {3, 10, 12, false}, {3, 10, 13, false}, {3, 10, 14, true}, {3, 10, 15, true}, {3, 10, -14, false},
		{1, 0, 1, false}, {1, 0, 2, true}, {3, -10, -7, false}, {3, -10, -6, true}, {3, -2, 1, false}, {3, -2, 2, true},
		{0, 10, 9, false}, {0, 10, 10, false}, {0, 10, 11, true},
		{-1, 10, 9, false}, {-1, 10, 10, false}, {-1, 10, 11, true}, {-5, 10, 8, false}, {-5, 10, 6, false},
		{math.MinInt, 10, 9, false}, {math.MinInt, 10, 10, false}, {math.MinInt, 10, 11, true},
		{math.MinInt, math.MinInt, math.MinInt, false}, {math.MinInt, math.MinInt, math.MinInt + 1, true},
		{math.MinInt, -1, math.MinInt, false}, {math.MinInt, math.MaxInt, math.MinInt, false}, {math.MinInt, math.MaxInt, math.MaxInt, false},
		{3, math.MaxInt, math.MaxInt, false}, {3, math.MaxInt - 1, math.MaxInt, false}, {3, math.MaxInt - 3, math.MaxInt, false}, {3, math.MaxInt - 4, math.MaxInt, true},
		{3, math.MaxInt, math.MinInt, false}, {3, math.MaxInt - 1, math.MinInt + 10, false},
		{3, math.MinInt, math.MinInt + 3, false}, {3, math.MinInt, math.MinInt + 4, true}, {3, math.MinInt, math.MaxInt, true},
		{math.MaxInt, 0, math.MaxInt, false}, {math.MaxInt, -1, math.MaxInt - 1, false}, {math.MaxInt, -1, math.MaxInt, true}, {math.MaxInt, 1, math.MaxInt, false},
		{math.MaxInt, math.MinInt, -1, false}, {math.MaxInt, math.MinInt, 0, true}, {math.MaxInt, math.MaxInt, math.MaxInt, false}, {math.MaxInt, math.MaxInt, -1, false},
	} {
		if beat.Over(api.Geo{Lease: x.lease}, x.asked, x.now) != x.over {
			t.Errorf("%+v", x)
		}
	}
}

func TestOver(t *testing.T) {
	l := times()
	for _, lease := range l {
		for _, asked := range l {
			for _, now := range l {
				if beat.Over(api.Geo{Lease: lease, Wait: now}, asked, now) != isOver(lease, asked, now) {
					t.Fatal(lease, asked, now)
				}
			}
		}
	}
}

// P7.2, Look.

func TestLookByHand(t *testing.T) {
	fresh := api.Watch{}
	one := api.Watch{Key: 17, Count: 4, Since: 10, Looked: true}
	gone := api.Watch{Since: 10, Looked: true}
	for i, x := range []struct {
		w    api.Watch
		s    string
		now  int
		want api.Watch
	}{
		{fresh, leaseOf(17, 4), 10, one},
		{fresh, "", 10, gone},
		{fresh, leaseOf(17, 4), -3, api.Watch{Key: 17, Count: 4, Since: -3, Looked: true}},
		{fresh, "", 0, api.Watch{Looked: true}},
		{one, leaseOf(17, 4), 12, one},
		{one, leaseOf(17, 4), 8, one},
		{one, leaseOf(17, 5), 12, api.Watch{Key: 17, Count: 5, Since: 12, Looked: true}},
		{one, leaseOf(17, 3), 12, api.Watch{Key: 17, Count: 3, Since: 12, Looked: true}},
		{one, leaseOf(18, 4), 12, api.Watch{Key: 18, Count: 4, Since: 12, Looked: true}},
		{one, leaseOf(4, 17), 12, api.Watch{Key: 4, Count: 17, Since: 12, Looked: true}},
		{one, leaseOf(17, 5), 3, api.Watch{Key: 17, Count: 5, Since: 3, Looked: true}},
		{one, "", 12, api.Watch{Since: 12, Looked: true}},
		{one, leaseOf(17, 4)[:5], 12, api.Watch{Since: 12, Looked: true}},
		{gone, "", 12, gone},
		{gone, "abc", 12, gone},
		{gone, leaseOf(0, 0), 12, gone},
		{gone, leaseOf(0, 3), 12, api.Watch{Count: 3, Since: 12, Looked: true}},
		{gone, leaseOf(17, 4), 12, api.Watch{Key: 17, Count: 4, Since: 12, Looked: true}},
		{api.Watch{Key: 17, Count: 4, Since: 10}, leaseOf(17, 4), 12, api.Watch{Key: 17, Count: 4, Since: 12, Looked: true}}, // a first look, whatever stands there
		{api.Watch{Since: 10}, "", 12, api.Watch{Since: 12, Looked: true}},
		{api.Watch{Key: -1, Count: -1, Since: 10, Looked: true}, "", 12, api.Watch{Since: 12, Looked: true}},
	} {
		if w := beat.Look(x.w, x.s, x.now); w != x.want {
			t.Errorf("%d: %+v, not %+v", i, w, x.want)
		}
	}
}

// seenBy are sectors with what is seen of them.
type seenBy struct {
	s          string
	key, count int
}

func sights() []seenBy {
	l := []seenBy{{"", 0, 0}, {"abc", 0, 0}, {sealed(4, bytesOf(17, 6)+bytesOf(4, 6)), 0, 0}, {leaseOf(17, api.MaxNumber+1), 0, 0}, {leaseOf(17, 4) + "\x00", 0, 0}}
	for _, key := range []int{0, 1, 16, 17, api.MaxNumber} {
		for _, count := range []int{0, 1, 4, 17, api.MaxNumber} {
			l = append(l, seenBy{leaseOf(key, count), key, count})
		}
	}
	return l
}

func watches() []api.Watch {
	var l []api.Watch
	for _, key := range []int{0, 1, 16, 17, api.MaxNumber, -1, -17, api.MaxNumber + 1, math.MaxInt, math.MinInt} {
		for _, count := range []int{0, 1, 4, 17, -4, math.MaxInt, math.MinInt} {
			for _, since := range []int{0, 10, -10, math.MaxInt, math.MinInt} {
				l = append(l, api.Watch{Key: key, Count: count, Since: since}, api.Watch{Key: key, Count: count, Since: since, Looked: true})
			}
		}
	}
	return l
}

func TestLook(t *testing.T) {
	for _, w := range watches() {
		for _, x := range sights() {
			for _, now := range []int{0, 1, 9, 10, 11, -10, math.MaxInt, math.MinInt} {
				was := w
				if o := beat.Look(w, x.s, now); o != looked(w, x.key, x.count, now) || w != was {
					t.Fatalf("%+v, % x at %d: %+v", w, x.s, now, o)
				}
			}
		}
	}
}

func TestLookAtNone(t *testing.T) {
	w := beat.Look(api.Watch{}, leaseOf(17, 4), 10)
	for _, s := range none() {
		if o := beat.Look(w, s, 12); o != (api.Watch{Since: 12, Looked: true}) {
			t.Fatalf("% x: %+v", s[:min(len(s), 40)], o)
		}
	}
}

// P7.2, Dead.

func TestDeadByHand(t *testing.T) {
	at := func(since int) api.Watch { return api.Watch{Key: 17, Count: 4, Since: since, Looked: true} }
	for i, x := range []struct {
		wait int
		w    api.Watch
		now  int
		dead bool
	}{
		{5, at(10), 9, false}, {5, at(10), 10, false}, {5, at(10), 14, false}, {5, at(10), 15, true}, {5, at(10), 16, true}, {5, at(10), 99, true}, {5, at(10), -15, false},
		{5, at(-10), -6, false}, {5, at(-10), -5, true}, {5, at(-2), 2, false}, {5, at(-2), 3, true},
		{0, at(10), 9, false}, {0, at(10), 10, true}, {0, at(10), 11, true},
		{-1, at(10), 8, false}, {-1, at(10), 9, false}, {-1, at(10), 10, true}, {-5, at(10), 5, false}, {-5, at(10), 9, false}, {-5, at(10), 10, true},
		{math.MinInt, at(10), 9, false}, {math.MinInt, at(10), 10, true}, {math.MinInt, at(math.MinInt), math.MinInt, true}, {math.MinInt, at(-1), math.MinInt, false}, {math.MinInt, at(math.MaxInt), math.MaxInt, true}, {math.MinInt, at(math.MaxInt), math.MaxInt - 1, false},
		{5, at(math.MaxInt), math.MaxInt, false}, {5, at(math.MaxInt - 4), math.MaxInt, false}, {5, at(math.MaxInt - 5), math.MaxInt, true}, {5, at(math.MaxInt), math.MinInt, false}, {5, at(math.MaxInt), math.MinInt + 20, false},
		{5, at(math.MinInt), math.MinInt + 4, false}, {5, at(math.MinInt), math.MinInt + 5, true}, {5, at(math.MinInt), math.MaxInt, true},
		{math.MaxInt, at(0), math.MaxInt - 1, false}, {math.MaxInt, at(0), math.MaxInt, true}, {math.MaxInt, at(1), math.MaxInt, false}, {math.MaxInt, at(-1), math.MaxInt - 2, false}, {math.MaxInt, at(-1), math.MaxInt - 1, true},
		{math.MaxInt, at(math.MinInt), -2, false}, {math.MaxInt, at(math.MinInt), -1, true}, {math.MaxInt, at(math.MaxInt), math.MaxInt, false}, {math.MaxInt, at(math.MaxInt), -2, false},
		{5, api.Watch{}, 99, false}, {5, api.Watch{Key: 17, Count: 4, Since: 10}, 99, false}, {0, api.Watch{Key: 17, Count: 4, Since: 10}, 10, false},
		{5, api.Watch{Since: 10, Looked: true}, 99, false}, {5, api.Watch{Count: 4, Since: 10, Looked: true}, 99, false}, {0, api.Watch{Since: 10, Looked: true}, 10, false}, {-5, api.Watch{Looked: true}, math.MaxInt, false},
		{5, api.Watch{Key: 1, Since: 10, Looked: true}, 15, true}, {5, api.Watch{Key: api.MaxNumber, Count: 1, Since: 10, Looked: true}, 15, true},
	} {
		if beat.Dead(api.Geo{Wait: x.wait}, x.w, x.now) != x.dead {
			t.Errorf("%d: %+v", i, x)
		}
	}
}

func TestDead(t *testing.T) {
	l := times()
	for _, wait := range l {
		for _, since := range l {
			w := api.Watch{Key: 17, Count: 4, Since: since, Looked: true}
			for _, now := range l {
				if beat.Dead(api.Geo{Lease: now, Wait: wait}, w, now) != isDead(wait, w, now) {
					t.Fatal(wait, since, now)
				}
			}
		}
	}
}

func TestDeadOfAnyWatch(t *testing.T) {
	for _, w := range watches() {
		for _, wait := range []int{5, 0, -5, math.MaxInt, math.MinInt} {
			for _, now := range []int{0, 4, 5, 9, 10, 14, 15, -10, -5, math.MaxInt, math.MinInt, math.MinInt + 5} {
				was := w
				if beat.Dead(api.Geo{Wait: wait}, w, now) != isDead(wait, w, now) || w != was {
					t.Fatalf("%+v, %d at %d", w, wait, now)
				}
			}
		}
	}
}

// Of a geometry the lease counts for Over alone, the wait for Dead alone, whether it may be or not.
func TestOneNumberOfTheGeometry(t *testing.T) {
	w := api.Watch{Key: 17, Count: 4, Since: 10, Looked: true}
	for _, g := range []api.Geo{{}, {Nodes: 2, Slots: 1, Blocks: 1, Per: 1, Journal: 3, Log: 8}, {Nodes: -1, Slots: math.MinInt, Blocks: math.MaxInt, Per: -7, Journal: 99, Log: 1}} {
		for _, other := range []int{-1, 0, 1, 3, 5, 9, math.MaxInt, math.MinInt} {
			g.Lease, g.Wait = 3, other
			if beat.Over(g, 10, 13) || !beat.Over(g, 10, 14) {
				t.Error(g)
			}
			g.Lease, g.Wait = other, 5
			if beat.Dead(g, w, 14) || !beat.Dead(g, w, 15) {
				t.Error(g)
			}
		}
	}
}

// P7.3.

func TestThereAndBack(t *testing.T) {
	for _, key := range numbers {
		for _, count := range numbers {
			s, e := beat.Bytes(key, count)
			if k, n := beat.Seen(s); e != api.OK || k != key || n != count {
				t.Fatal(key, count, k, n, e)
			}
			if s2, e := beat.Bytes(beat.Seen(s)); e != api.OK || s2 != s {
				t.Fatal(key, count)
			}
		}
	}
}

// A watch that looks now and then at a sector that changes now and then, its clock going on: within Wait of the last change that it saw nobody is dead, from there on he is.
func TestWatching(t *testing.T) {
	for _, wait := range []int{1, 2, 5, 9} {
		for _, start := range []int{0, 7, -20, math.MinInt, math.MaxInt - 200} {
			for _, beats := range []int{1, 2, 3, 7, 200} {
				for _, looks := range []int{1, 2, 5} {
					watching(t, api.Geo{Lease: 1, Wait: wait}, start, beats, looks)
				}
			}
		}
	}
}

func watching(t *testing.T, g api.Geo, start, beats, looks int) {
	t.Helper()
	var w api.Watch
	seen, last := "", 0 // what was seen last, and how many ticks ago that was another one
	for i := range 60 {
		now := start + i
		if i%looks == 0 {
			s, e := beat.Bytes(16, 1+i/beats)
			if e != api.OK {
				t.Fatal(e)
			}
			w = beat.Look(w, s, now)
			if s != seen {
				seen, last = s, i
			}
		}
		if beat.Dead(g, w, now) != (i-last >= g.Wait) {
			t.Fatalf("%+v, start %d, beats %d, looks %d: tick %d: %+v", g, start, beats, looks, i, w)
		}
	}
}

func TestSameSectorAgainAndAgain(t *testing.T) {
	for _, s := range []string{leaseOf(16, 1), leaseOf(api.MaxNumber, api.MaxNumber)} {
		for _, wait := range []int{0, 1, 5, 1 << 20} {
			g := api.Geo{Lease: 1, Wait: wait}
			first := beat.Look(api.Watch{}, s, 100)
			w := first
			for _, now := range []int{101, 104, 105, 100 + wait, 1 << 21, math.MaxInt} {
				w = beat.Look(w, s, now)
				if w != first || beat.Dead(g, w, now) != (now-100 >= wait) {
					t.Fatal(wait, now, w)
				}
			}
		}
	}
}

// A sector that is none, again and again, is nobody's who could be dead; a key that is seen again behind it is seen anew.
func TestGoneAndBack(t *testing.T) {
	g := api.Geo{Lease: 3, Wait: 5}
	w := beat.Look(api.Watch{}, leaseOf(16, 1), 0)
	w = beat.Look(w, "", 4)
	for now := 4; now < 40; now++ {
		w = beat.Look(w, "", now)
		if w != (api.Watch{Since: 4, Looked: true}) || beat.Dead(g, w, now) {
			t.Fatal(now, w)
		}
	}
	w = beat.Look(w, leaseOf(16, 1), 40)
	if w != (api.Watch{Key: 16, Count: 1, Since: 40, Looked: true}) || beat.Dead(g, w, 44) || !beat.Dead(g, w, 45) {
		t.Error(w)
	}
}

// While a node's lease may go on, whoever watches it, however his clock stands to the node's, does not take it for dead ahead of its end.
func TestOverAheadOfDead(t *testing.T) {
	g := api.Geo{Lease: 3, Wait: 4}
	for _, apart := range []int{0, 100, -100} {
		asked := 10
		w := beat.Look(api.Watch{}, leaseOf(16, 1), asked+apart)
		for now := asked; now < 30; now++ {
			if beat.Dead(g, w, now+apart) && !beat.Over(g, asked, now) {
				t.Error(apart, now)
			}
		}
	}
}

// The examples.

func TestExamples(t *testing.T) {
	g := api.Geo{Wait: 5}
	s, e := beat.Bytes(16, 1)
	w := beat.Look(api.Watch{}, s, 10)
	if e != api.OK || beat.Dead(g, w, 14) || !beat.Dead(g, w, 15) {
		t.Error(w, e)
	}
	for now := 11; now <= 15; now++ {
		w = beat.Look(w, s, now)
	}
	if beat.Dead(g, w, 14) || !beat.Dead(g, w, 15) {
		t.Error(w)
	}
}

// R1, R3 and R4.

func TestFarArguments(t *testing.T) {
	l := times()
	texts := append(none()[:20], leaseOf(17, 4), leaseOf(0, 0))
	for _, a := range l {
		for _, b := range l {
			s, e := beat.Bytes(a, b)
			s2, e2 := beat.Bytes(a, b)
			ok := 1 <= min(a, b) && max(a, b) <= api.MaxNumber
			if s != s2 || e != e2 || (e == api.OK) != ok {
				t.Fatal(a, b, e, e2)
			}
			w := api.Watch{Key: a, Count: b, Since: a, Looked: true}
			for _, s := range texts {
				if beat.Look(w, s, b) != beat.Look(w, s, b) {
					t.Fatal(a, b)
				}
			}
		}
	}
}

// What is called between two calls is not to be told from the second one's answer.
func TestNothingKept(t *testing.T) {
	g := api.Geo{Lease: 3, Wait: 5}
	ask := func() []any {
		s, e := beat.Bytes(17, 4)
		k, n := beat.Seen(s)
		w := beat.Look(api.Watch{}, s, 10)
		return []any{s, e, k, n, w, beat.Over(g, 10, 13), beat.Over(g, 10, 14), beat.Dead(g, w, 14), beat.Dead(g, w, 15)}
	}
	was := ask()
	for _, x := range sights() {
		for _, w := range watches()[:40] {
			beat.Dead(api.Geo{Lease: 9, Wait: 9}, beat.Look(w, x.s, 99), 999)
			beat.Over(api.Geo{Lease: 9, Wait: 9}, 0, 99)
			_, _ = beat.Bytes(x.key, x.count)
		}
		if !slices.Equal(ask(), was) {
			t.Fatal(ask(), was)
		}
	}
}

func TestHandedInUnchanged(t *testing.T) {
	g := api.Geo{Nodes: 2, Slots: 1, Blocks: 1, Per: 1, Journal: 3, Log: 8, Lease: 3, Wait: 5}
	b := []byte(leaseOf(17, 4))
	w := api.Watch{Key: 16, Count: 3, Since: 1, Looked: true}
	wasG, wasB, wasW := g, string(b), w
	s := string(b)
	o := beat.Look(w, s, 10)
	beat.Seen(s)
	beat.Dead(g, w, 10)
	beat.Over(g, 1, 10)
	if g != wasG || s != wasB || w != wasW || o == w {
		t.Error(g, s, w, o)
	}
}
