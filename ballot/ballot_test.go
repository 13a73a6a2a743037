package ballot_test

import (
	"encoding/binary"
	"hash/crc32"
	"math"
	"math/big"
	"slices"
	"strings"
	"testing"

	"breakwater/api"
	"breakwater/ballot"
)

const most = 64

// lastRound is the greatest round of which a ballot is not above MaxNumber: but node 0's, which is MaxNumber, all nodes' last ones are of the round ahead.
const lastRound = 1 << 36

// insts, numbers are those that a record may have: at the ends, and where one byte more is needed.
var (
	insts   = []int{0, 1, 2, 17, 255, 256, 257, 510, 511, 512}
	numbers = []int{0, 1, 2, 15, 16, 17, 33, 255, 256, 257, 65535, 65536, 1<<24 - 1, 1 << 24, 1<<32 - 1, 1 << 32, 1<<32 + 1, api.MaxNumber - 16, api.MaxNumber - 2, api.MaxNumber - 1, api.MaxNumber}
)

// noInsts, noNumbers are beside these, and such as a narrower type or the bytes alone would take for one.
var (
	noInsts   = []int{-1, -2, -512, 513, 514, 1024, 65535, 65536, 65537, 1 << 32, 1<<32 + 3, math.MaxInt, math.MaxInt - 1, math.MinInt, math.MinInt + 1}
	noNumbers = []int{-1, -2, -16, -17, -256, api.MaxNumber + 1, api.MaxNumber + 2, api.MaxNumber + 16, 1 << 41, 1<<48 - 1, 1 << 48, 1<<48 + 17, 1 << 62, -1 << 32, -1 << 40, -1 << 48, 1 - 1<<48, math.MaxInt, math.MaxInt - 1, math.MinInt, math.MinInt + 1}
)

// noNodes are beside the nodes, and such as a narrower type would take for one.
var noNodes = []int{-1, -2, -15, -16, -17, 16, 17, 31, 32, 256, 257, 1 << 16, 1<<32 + 3, 1 << 40, math.MaxInt, math.MaxInt - 1, math.MinInt, math.MinInt + 1}

// vals are values that may be.
func vals() []string {
	return []string{"\x00", "x", "\xff", "a value", strings.Repeat("\x00", 63), strings.Repeat("y", 63), strings.Repeat("\x00", most), strings.Repeat("\xff", most), strings.Repeat("z", most)}
}

// longVals are of more bytes than a value has.
func longVals() []string {
	return []string{strings.Repeat("x", most+1), strings.Repeat("\x00", most+1), strings.Repeat("x", 128), strings.Repeat("x", 256), strings.Repeat("x", 257), strings.Repeat("x", 491), strings.Repeat("x", 492), strings.Repeat("x", 65536), strings.Repeat("x", 65536+7), strings.Repeat("x", 1<<20)}
}

// may is the chapter's words, one by one.
func may(r api.Rec) bool {
	if r.Inst < 0 || r.Inst > 512 || r.Mbal < 0 || r.Mbal > 1<<40 || r.Bal < 0 || r.Bal > r.Mbal {
		return false
	}
	if r.Bal == 0 {
		return len(r.Val) == 0
	}
	return len(r.Val) != 0 && len(r.Val) <= most
}

// bytesOf tells a number's bytes by division alone.
func bytesOf(n, width int) string {
	b := make([]byte, 0, width)
	for range width {
		b = append(b, byte(n%256))
		n /= 256
	}
	return string(b)
}

// summed is a text with its sum behind it, as Go's own library has that: nothing that the program does is leant on.
func summed(s string) string {
	sum := crc32.Checksum([]byte(s), crc32.MakeTable(crc32.Castagnoli))
	return string(binary.LittleEndian.AppendUint32([]byte(s), sum))
}

func sealed(kind int, load string) string {
	return summed(string([]byte{byte(kind), byte(len(load)), byte(len(load) >> 8)}) + load)
}

// sectorOf is the sector by the chapter's words, of any numbers that its bytes can tell.
func sectorOf(r api.Rec) string {
	return sealed(4, bytesOf(r.Inst, 2)+bytesOf(r.Mbal, 6)+bytesOf(r.Bal, 6)+r.Val)
}

// good are records that may be: all numbers with all values.
func good() []api.Rec {
	var l []api.Rec
	for _, inst := range insts {
		for _, mbal := range numbers {
			for _, bal := range numbers {
				if bal == 0 {
					l = append(l, api.Rec{Inst: inst, Mbal: mbal})
				} else if bal <= mbal {
					for _, val := range vals() {
						l = append(l, api.Rec{Inst: inst, Mbal: mbal, Bal: bal, Val: val})
					}
				}
			}
		}
	}
	return l
}

// bad are records that may not be, each for one thing alone, all of whose numbers the sector's bytes could tell but those below 0 or too great for these.
func bad() []api.Rec {
	var l []api.Rec
	for _, inst := range noInsts {
		l = append(l, api.Rec{Inst: inst}, api.Rec{Inst: inst, Mbal: 33}, api.Rec{Inst: inst, Mbal: 33, Bal: 17, Val: "x"})
	}
	for _, n := range noNumbers {
		l = append(l, api.Rec{Inst: 3, Mbal: n}, api.Rec{Mbal: n}, api.Rec{Inst: 512, Mbal: n, Bal: 16, Val: "x"}, api.Rec{Mbal: n, Bal: n, Val: "x"}, api.Rec{Mbal: n, Bal: n})
		l = append(l, api.Rec{Inst: 3, Mbal: 33, Bal: n, Val: "x"}, api.Rec{Inst: 3, Mbal: 33, Bal: n}, api.Rec{Mbal: api.MaxNumber, Bal: n, Val: "x"}, api.Rec{Bal: n, Val: "x"})
	}
	for _, n := range numbers {
		l = append(l, api.Rec{Inst: 3, Mbal: n, Bal: n + 1, Val: "x"}, api.Rec{Inst: 3, Mbal: n, Bal: n + 16, Val: "x"}, api.Rec{Inst: 3, Mbal: n, Bal: 1<<40 + 1, Val: "x"})
		for _, val := range slices.Concat(vals(), longVals()) { // a value of nothing that was accepted
			l = append(l, api.Rec{Inst: 3, Mbal: n, Val: val})
		}
		if n > 0 {
			l = append(l, api.Rec{Inst: 3, Mbal: n, Bal: n}, api.Rec{Inst: 3, Mbal: n, Bal: 1})
			for _, val := range longVals() {
				l = append(l, api.Rec{Inst: 3, Mbal: n, Bal: n, Val: val})
			}
		}
	}
	return l
}

// harmed are all texts that differ from s in one bit, in its length, or in a byte beside it; none of them is empty.
func harmed(s string) []string {
	var l []string
	for i := range 8 * len(s) {
		b := []byte(s)
		b[i/8] ^= 1 << (i % 8)
		l = append(l, string(b))
	}
	for i := range s {
		l = append(l, s[i:][1:], s[:i]+s[i+1:])
		if i > 0 {
			l = append(l, s[:i])
		}
	}
	l = append(l, s+"\x00", "\x00"+s, s+s, s+"x", s+strings.Repeat("\x00", api.SectorSize-len(s)))
	return slices.DeleteFunc(l, func(x string) bool { return x == "" })
}

// none are no sectors of records: no sealed ones, sealed ones of another kind, of too few bytes, or with numbers that no record that may be has.
func none() []string {
	load := bytesOf(3, 2) + bytesOf(33, 6) + bytesOf(17, 6)
	l := []string{"\x00", "x", "\x04", "\x04\x00\x00", "abc", load, load + "x", summed(""), summed(load), summed("\x04"), strings.Repeat("\x00", 14), strings.Repeat("\x00", 21), strings.Repeat("\xff", 21), strings.Repeat("\x00", api.SectorSize), strings.Repeat("\x04", api.SectorSize), strings.Repeat("\x00", 1<<20)}
	for kind := range 256 {
		if kind != 4 {
			l = append(l, sealed(kind, load+"x"), sealed(kind, strings.Repeat("\x00", 14)), sealed(kind, ""))
		}
	}
	for i := range load {
		l = append(l, sealed(4, load[:i]), sealed(4, strings.Repeat("\x00", i)))
	}
	for _, r := range bad() {
		if 0 <= min(r.Inst, r.Mbal, r.Bal) && r.Inst < 1<<16 && max(r.Mbal, r.Bal) < 1<<48 {
			l = append(l, sectorOf(r))
		}
	}
	return append(l, harmed(sectorOf(api.Rec{Inst: 3, Mbal: 33, Bal: 17, Val: "x"}))...)
}

func TestNumbersOfTheChapter(t *testing.T) {
	if api.OK != 0 || api.ErrArg != 2 || api.ErrCorrupt != 50 || ballot.MostVal != most || api.MaxNodes != 16 || api.MaxLog != 512 || api.MaxNumber != 1<<40 {
		t.Error(api.OK, api.ErrArg, api.ErrCorrupt, ballot.MostVal, api.MaxNodes, api.MaxLog, api.MaxNumber)
	}
}

// P8.1, May.

func TestMayByHand(t *testing.T) {
	full := strings.Repeat("x", most)
	for i, x := range []struct {
		r  api.Rec
		is bool
	}{
		{api.Rec{}, true}, {api.Rec{Inst: 512}, true}, {api.Rec{Inst: -1}, false}, {api.Rec{Inst: 513}, false},
		{api.Rec{Mbal: 1}, true}, {api.Rec{Mbal: 1 << 40}, true}, {api.Rec{Mbal: -1}, false}, {api.Rec{Mbal: 1<<40 + 1}, false},
		{api.Rec{Mbal: 16, Bal: 16, Val: "x"}, true}, {api.Rec{Mbal: 16, Bal: 1, Val: "x"}, true}, {api.Rec{Mbal: 16, Bal: 17, Val: "x"}, false}, {api.Rec{Mbal: 16, Bal: -1, Val: "x"}, false}, {api.Rec{Mbal: 16, Bal: -1}, false},
		{api.Rec{Mbal: 1 << 40, Bal: 1 << 40, Val: full}, true}, {api.Rec{Mbal: 1<<40 + 1, Bal: 1 << 40, Val: "x"}, false},
		{api.Rec{Mbal: 16, Bal: 16}, false}, {api.Rec{Mbal: 16, Bal: 16, Val: full}, true}, {api.Rec{Mbal: 16, Bal: 16, Val: full + "x"}, false},
		{api.Rec{Mbal: 16, Val: "x"}, false}, {api.Rec{Val: "\x00"}, false}, {api.Rec{Mbal: 16, Val: full + "x"}, false}, {api.Rec{Bal: 1, Val: "x"}, false}, {api.Rec{Bal: 1}, false},
	} {
		if ballot.May(x.r) != x.is {
			t.Errorf("%d: %+v", i, x.r)
		}
	}
}

func TestMay(t *testing.T) {
	all := slices.Concat([]string{""}, vals(), longVals())
	ints := slices.Concat(numbers, noNumbers, noInsts)
	for _, inst := range slices.Concat(insts, noInsts) {
		for _, mbal := range ints {
			for _, bal := range ints {
				for _, val := range all {
					if r := (api.Rec{Inst: inst, Mbal: mbal, Bal: bal, Val: val}); ballot.May(r) != may(r) {
						t.Fatalf("%d, %d, %d, %d bytes", inst, mbal, bal, len(val))
					}
				}
			}
		}
	}
}

func TestMayOfEachSize(t *testing.T) {
	for size := range 600 {
		val := strings.Repeat("v", size)
		if ballot.May(api.Rec{Mbal: 16, Bal: 16, Val: val}) != (size >= 1 && size <= most) || ballot.May(api.Rec{Mbal: 16, Val: val}) != (size == 0) {
			t.Error(size)
		}
	}
}

// P8.1, Bytes.

func TestBytesByHand(t *testing.T) {
	for _, x := range []struct {
		r    api.Rec
		want string
	}{
		{api.Rec{}, "\x04\x0e\x00" + "\x00\x00" + "\x00\x00\x00\x00\x00\x00" + "\x00\x00\x00\x00\x00\x00"},
		{api.Rec{Inst: 3, Mbal: 33}, "\x04\x0e\x00" + "\x03\x00" + "\x21\x00\x00\x00\x00\x00" + "\x00\x00\x00\x00\x00\x00"},
		{api.Rec{Inst: 512, Mbal: 1 << 40, Bal: 1<<40 - 1, Val: "x"}, "\x04\x0f\x00" + "\x00\x02" + "\x00\x00\x00\x00\x00\x01" + "\xff\xff\xff\xff\xff\x00" + "x"},
		{api.Rec{Inst: 0x0102, Mbal: 0x0102030405, Bal: 0x0a0b0c0d, Val: "abc"}, "\x04\x11\x00" + "\x02\x01" + "\x05\x04\x03\x02\x01\x00" + "\x0d\x0c\x0b\x0a\x00\x00" + "abc"},
		{api.Rec{Mbal: 16, Bal: 16, Val: strings.Repeat("z", most)}, "\x04\x4e\x00" + "\x00\x00" + "\x10\x00\x00\x00\x00\x00" + "\x10\x00\x00\x00\x00\x00" + strings.Repeat("z", most)},
	} {
		if s, e := ballot.Bytes(x.r); e != api.OK || s != summed(x.want) || len(s) != 21+len(x.r.Val) {
			t.Errorf("%+v: % x, %d", x.r, s, e)
		}
	}
}

func TestBytes(t *testing.T) {
	for _, r := range good() {
		if s, e := ballot.Bytes(r); e != api.OK || s != sectorOf(r) {
			t.Fatalf("%+v: % x, %d", r, s, e)
		}
	}
}

func TestBytesRefuses(t *testing.T) {
	for _, r := range bad() {
		if s, e := ballot.Bytes(r); e != api.ErrArg || s != "" {
			t.Fatalf("%+v: % x, %d", r, s, e)
		}
	}
}

// P8.1, Read.

func TestRead(t *testing.T) {
	for _, r := range good() {
		if o, e := ballot.Read(sectorOf(r)); e != api.OK || o != r {
			t.Fatalf("%+v: %+v, %d", r, o, e)
		}
	}
}

// An empty sector and the sealed one of a record of all zero tell the same.
func TestReadOfZero(t *testing.T) {
	for _, s := range []string{"", sealed(4, strings.Repeat("\x00", 14))} {
		if r, e := ballot.Read(s); e != api.OK || r != (api.Rec{}) {
			t.Errorf("% x: %+v, %d", s, r, e)
		}
	}
	if s, e := ballot.Bytes(api.Rec{}); e != api.OK || s != sealed(4, strings.Repeat("\x00", 14)) {
		t.Errorf("% x, %d", s, e)
	}
}

func readsNot(t *testing.T, s string) {
	t.Helper()
	if r, e := ballot.Read(s); e != api.ErrCorrupt || r != (api.Rec{}) {
		t.Fatalf("%d bytes % x: %+v, %d", len(s), s[:min(len(s), 40)], r, e)
	}
}

func TestReadOfNone(t *testing.T) {
	l := none()
	if len(l) < 1000 {
		t.Fatal(len(l))
	}
	for _, s := range l {
		readsNot(t, s)
	}
}

func TestReadOfHarmed(t *testing.T) {
	for _, r := range []api.Rec{{}, {Inst: 512, Mbal: api.MaxNumber}, {Mbal: 16, Bal: 16, Val: "x"}, {Inst: 255, Mbal: 65536, Bal: 256, Val: strings.Repeat("\x00", most)}, {Inst: 1, Mbal: api.MaxNumber, Bal: api.MaxNumber, Val: strings.Repeat("z", most)}} {
		for _, s := range harmed(sectorOf(r)) {
			readsNot(t, s)
		}
	}
}

// Each size of a value, sealed rightly: what may be is read, whatever is more or less is not.
func TestReadOfEachSize(t *testing.T) {
	for size := range 505 - 14 + 1 {
		val := strings.Repeat("v", size)
		r := api.Rec{Inst: 3, Mbal: 33, Bal: 17, Val: val}
		if may(r) {
			if o, e := ballot.Read(sectorOf(r)); e != api.OK || o != r {
				t.Fatal(size, o, e)
			}
		} else {
			readsNot(t, sectorOf(r))
		}
		if size > 0 {
			readsNot(t, sectorOf(api.Rec{Inst: 3, Mbal: 33, Val: val}))
		}
	}
}

// Of texts so long that to sum them would be felt.
func TestLongTexts(t *testing.T) {
	long := strings.Repeat("x", 1<<26)
	s := sectorOf(api.Rec{Inst: 3, Mbal: 33, Bal: 17, Val: "x"}) + long
	for range 2000 {
		readsNot(t, s)
		if o, e := ballot.Bytes(api.Rec{Mbal: 16, Bal: 16, Val: long}); e != api.ErrArg || o != "" {
			t.Fatal(len(o), e)
		}
	}
}

// P8.2, Next.

// walked is the least ballot by the chapter's words: round for round, from a round on that is no later one.
func walked(node, from int, seen ...int) int {
	if node < 0 || node > 15 {
		return 0
	}
	for round := from; ; round++ {
		b := 16*round + node
		if b > 1<<40 {
			return 0
		}
		if !slices.ContainsFunc(seen, func(n int) bool { return n >= b }) {
			return b
		}
	}
}

// reckoned is it in numbers that cannot wrap round.
func reckoned(node int, seen ...int) int {
	if node < 0 || node > 15 {
		return 0
	}
	top := big.NewInt(15)
	for _, n := range seen {
		if b := big.NewInt(int64(n)); b.Cmp(top) > 0 {
			top = b
		}
	}
	b := new(big.Int).Sub(top, big.NewInt(int64(node)))
	b.Div(b, big.NewInt(16)).Add(b, big.NewInt(1)).Mul(b, big.NewInt(16)).Add(b, big.NewInt(int64(node)))
	if b.Cmp(big.NewInt(1<<40)) > 0 {
		return 0
	}
	return int(b.Int64())
}

func nextIs(t *testing.T, want, node int, seen ...int) {
	t.Helper()
	if b := ballot.Next(node, seen...); b != want {
		t.Fatalf("Next(%d, %v): %d, not %d", node, seen[:min(len(seen), 9)], b, want)
	}
}

func TestNextByHand(t *testing.T) {
	for i, x := range []struct {
		want, node int
		seen       []int
	}{
		{19, 3, nil}, {35, 3, []int{19}}, {19, 3, []int{18, 2}}, // the chapter's examples
		{16, 0, nil}, {17, 1, nil}, {31, 15, nil}, {16, 0, []int{}}, {16, 0, []int{15}}, {32, 0, []int{16}}, {31, 15, []int{16}}, {31, 15, []int{30}}, {47, 15, []int{31}}, {32, 0, []int{31}},
		{35, 3, []int{20}}, {35, 3, []int{34}}, {51, 3, []int{35}}, {51, 3, []int{36}}, {19, 3, []int{3}}, {19, 3, []int{0}}, {19, 3, []int{-1}}, {19, 3, []int{-19, math.MinInt, -1 << 40}},
		{35, 3, []int{19, 18}}, {35, 3, []int{18, 19}}, {35, 3, []int{1, 19, 2}}, {35, 3, []int{19, 19}}, {35, 3, []int{19, -19, math.MinInt}},
		{1 << 40, 0, []int{1<<40 - 1}}, {1 << 40, 0, []int{1<<40 - 16}}, {1<<40 - 16, 0, []int{1<<40 - 17}}, {0, 0, []int{1 << 40}}, {0, 0, []int{1<<40 + 1}}, {0, 0, []int{16, 1 << 40, 16}},
		{1<<40 - 1, 15, []int{1<<40 - 2}}, {0, 15, []int{1<<40 - 1}}, {0, 15, []int{1 << 40}}, {1<<40 - 15, 1, []int{1<<40 - 16}}, {0, 1, []int{1<<40 - 15}}, {0, 1, []int{1<<40 - 1}},
		{0, 3, []int{1 << 62}}, {0, 3, []int{math.MaxInt}}, {0, 0, []int{math.MaxInt}}, {0, 15, []int{math.MaxInt}}, {0, 3, []int{math.MaxInt - 12}}, {0, 3, []int{math.MinInt, math.MaxInt}}, {0, 3, []int{math.MaxInt, 19}},
		{0, 16, nil}, {0, -1, nil}, {0, -16, nil}, {0, 19, nil}, {0, -1, []int{-20}}, {0, 16, []int{-20}}, {0, 16, []int{15}},
	} {
		if b := ballot.Next(x.node, x.seen...); b != x.want {
			t.Errorf("%d: Next(%d, %v): %d, not %d", i, x.node, x.seen, b, x.want)
		}
	}
}

// Of each node: above each number up to some rounds on, and above two of them.
func TestNextNearTheBeginning(t *testing.T) {
	for node := range api.MaxNodes {
		nextIs(t, walked(node, 1), node)
		for a := -40; a <= 100; a++ {
			nextIs(t, walked(node, 1, a), node, a)
			for b := -20; b <= 70; b += 3 {
				nextIs(t, walked(node, 1, a, b), node, a, b)
			}
		}
	}
}

func TestNextNearTheEnd(t *testing.T) {
	for node := range api.MaxNodes {
		for n := api.MaxNumber - 100; n <= api.MaxNumber+40; n++ {
			nextIs(t, walked(node, lastRound-8, n), node, n)
			nextIs(t, walked(node, lastRound-8, n), node, 5, n, -n)
		}
		last := api.MaxNumber - 16 + node
		if node == 0 {
			last = api.MaxNumber
		}
		nextIs(t, last, node, last-1)
		nextIs(t, last, node, last-16)
		nextIs(t, last-16, node, last-17)
		nextIs(t, 0, node, last)
		nextIs(t, 0, node, last+1)
	}
}

// farNumbers are beside the beginning and the end: ballots and their neighbours, great numbers, and those at a type's ends.
func farNumbers() []int {
	l := slices.Concat(numbers, noNumbers)
	for _, n := range []int{1 << 8, 1 << 16, 1 << 20, 1 << 31, 1 << 32, 1 << 39, 1 << 40, 1 << 48, 1 << 53, 1 << 59, 1 << 60, 1 << 62, math.MaxInt - 20} {
		for k := -17; k <= 17; k++ {
			l = append(l, n+k, -n+k)
		}
	}
	for k := range 17 {
		l = append(l, math.MaxInt-k, math.MinInt+k)
	}
	return l
}

func TestNextFarOut(t *testing.T) {
	l := farNumbers()
	for node := range api.MaxNodes {
		nextIs(t, reckoned(node, l...), node, l...)
		for i, n := range l {
			nextIs(t, reckoned(node, n), node, n)
			m := l[(i*7+3)%len(l)]
			nextIs(t, reckoned(node, n, m), node, n, m)
			nextIs(t, reckoned(node, n, m), node, m, n)
		}
	}
}

func TestNextOfNoNode(t *testing.T) {
	for _, node := range noNodes {
		nextIs(t, 0, node)
		for _, n := range farNumbers() {
			nextIs(t, 0, node, n)
		}
	}
}

// All of what is seen counts, wherever it stands, however long the list is.
func TestNextOfMany(t *testing.T) {
	seen := make([]int, 1000)
	for i := range seen {
		seen[i] = i % 48
	}
	nextIs(t, 51, 3, seen...)
	for _, at := range []int{0, 1, 500, 998, 999} {
		was := seen[at]
		seen[at] = 1 << 20
		nextIs(t, 1<<20+3, 3, seen...)
		seen[at] = 1<<20 + 3
		nextIs(t, 1<<20+19, 3, seen...)
		seen[at] = was
	}
	nextIs(t, 51, 3, slices.Repeat(seen, 1000)...)
}

// P8.2, Node.

func TestNodeByHand(t *testing.T) {
	for _, x := range []struct{ ballot, want int }{
		{16, 0}, {17, 1}, {19, 3}, {31, 15}, {32, 0}, {35, 3}, {47, 15}, {1<<40 - 16, 0}, {1<<40 - 1, 15}, {1 << 40, 0},
		{0, -1}, {1, -1}, {3, -1}, {15, -1}, {-1, -1}, {-16, -1}, {-19, -1}, {1<<40 + 1, -1}, {1<<40 + 16, -1}, {1 << 48, -1}, {math.MaxInt, -1}, {math.MinInt, -1}, {math.MinInt + 19, -1},
	} {
		if n := ballot.Node(x.ballot); n != x.want {
			t.Errorf("%d: %d, not %d", x.ballot, n, x.want)
		}
	}
}

func TestNode(t *testing.T) {
	l := farNumbers()
	for n := -100; n <= 1000; n++ {
		l = append(l, n, api.MaxNumber+n)
	}
	for _, n := range l {
		want := -1
		for node := range 16 {
			if n >= 16 && n <= 1<<40 && n >= node && (n-node)/16*16 == n-node {
				want = node
			}
		}
		if got := ballot.Node(n); got != want {
			t.Fatalf("%d: %d, not %d", n, got, want)
		}
	}
}

// P8.2, At.

func TestAtByHand(t *testing.T) {
	r := api.Rec{Inst: 3, Mbal: 33, Bal: 17, Val: "x"}
	for _, x := range []struct {
		r    api.Rec
		inst int
		want api.Rec
	}{
		{r, 3, r}, {r, 2, api.Rec{Inst: 2, Mbal: 33}}, {r, 4, api.Rec{Inst: 4, Mbal: 33}}, {r, 0, api.Rec{Mbal: 33}}, {r, 512, api.Rec{Inst: 512, Mbal: 33}},
		{api.Rec{}, 0, api.Rec{}}, {api.Rec{}, 1, api.Rec{Inst: 1}}, {api.Rec{Mbal: 16}, 0, api.Rec{Mbal: 16}}, {api.Rec{Mbal: 16, Bal: 16, Val: "v"}, 0, api.Rec{Mbal: 16, Bal: 16, Val: "v"}}, {api.Rec{Mbal: 16, Bal: 16, Val: "v"}, 1, api.Rec{Inst: 1, Mbal: 16}},
		{api.Rec{Inst: 512, Mbal: 1 << 40, Bal: 1 << 40, Val: "v"}, 511, api.Rec{Inst: 511, Mbal: 1 << 40}},
	} {
		if o := ballot.At(x.r, x.inst); o != x.want {
			t.Errorf("%+v at %d: %+v", x.r, x.inst, o)
		}
	}
}

// Whether a record or an inst may be is not asked: nothing that the chapter says of At hangs on it.
func TestAt(t *testing.T) {
	all := append(bad(), good()[:500]...)
	for _, r := range all {
		for _, inst := range slices.Concat(insts, noInsts, []int{r.Inst, r.Inst + 1, r.Inst - 1, r.Mbal, r.Bal}) {
			want := api.Rec{Inst: inst, Mbal: r.Mbal}
			if inst == r.Inst {
				want = r
			}
			if o := ballot.At(r, inst); o != want {
				t.Fatalf("%+v at %d: %+v", r, inst, o)
			}
		}
	}
}

// What a proposer goes on with may be written, where what it had might be.
func TestAtMayBe(t *testing.T) {
	for _, r := range good() {
		for _, inst := range insts {
			if o := ballot.At(r, inst); !ballot.May(o) || o.Inst != inst || o.Mbal != r.Mbal {
				t.Fatalf("%+v at %d: %+v", r, inst, o)
			}
		}
	}
}

// P8.3.

func TestThereAndBack(t *testing.T) {
	seen := map[string]api.Rec{}
	for _, r := range good() {
		s, e := ballot.Bytes(r)
		o, f := ballot.Read(s)
		if e != api.OK || f != api.OK || o != r || len(s) > api.SectorSize {
			t.Fatalf("%+v: %+v, %d, %d", r, o, e, f)
		}
		if was, ok := seen[s]; ok && was != r {
			t.Fatalf("%+v and %+v", was, r)
		}
		seen[s] = r
	}
}

// Three ways round: whatever is read is just what its record's sector is.
func TestBackAndThere(t *testing.T) {
	for _, r := range append(good(), bad()...) {
		if min(r.Inst, r.Mbal, r.Bal) < 0 || r.Inst >= 1<<16 || max(r.Mbal, r.Bal) >= 1<<48 || len(r.Val) > 505-14 {
			continue
		}
		s := sectorOf(r)
		o, e := ballot.Read(s)
		if (e == api.OK) != may(r) {
			t.Fatalf("%+v: %d", r, e)
		}
		if again, f := ballot.Bytes(o); e == api.OK && (f != api.OK || again != s) {
			t.Fatalf("%+v: %d", r, f)
		}
	}
}

func TestBallotsOfUnlikeNodesAreUnlike(t *testing.T) {
	whose := map[int]int{}
	for node := range api.MaxNodes {
		for _, from := range []int{0, 1 << 20, 1<<32 - 300, api.MaxNumber - 400} {
			b := from
			for range 50 {
				b = ballot.Next(node, b)
				if b == 0 {
					break
				}
				if was, ok := whose[b]; ok && was != node {
					t.Fatalf("%d is of %d and of %d", b, was, node)
				}
				whose[b] = node
				if ballot.Node(b) != node {
					t.Fatalf("%d of %d: of %d", b, node, ballot.Node(b))
				}
			}
		}
	}
	if len(whose) < 16*50 {
		t.Error(len(whose))
	}
}

// Between what was seen and the next one no ballot of that node stands, by what Node tells of each.
func TestNextIsTheLeastAbove(t *testing.T) {
	for node := range api.MaxNodes {
		for _, from := range []int{-20, 1<<20 - 20, 1<<32 - 20, api.MaxNumber - 50} {
			for top := from; top < from+60; top++ {
				b := ballot.Next(node, top)
				end := b
				if b == 0 {
					end = api.MaxNumber + 40 // there is none any more
				} else if b <= top || ballot.Node(b) != node {
					t.Fatal(node, top, b)
				}
				for n := top + 1; n < end; n++ {
					if ballot.Node(n) == node {
						t.Fatalf("node %d: %d stands between %d and %d", node, n, top, b)
					}
				}
			}
		}
	}
}

// R1, R3 and R4.

func TestFarArguments(t *testing.T) {
	l := slices.Concat(insts, noInsts, numbers, noNumbers, noNodes)
	for _, a := range l {
		ballot.Node(a)
		for _, b := range l {
			if ballot.Next(a, b) != ballot.Next(a, b) {
				t.Fatal(a, b)
			}
			for _, val := range []string{"", "x", strings.Repeat("x", most), strings.Repeat("x", most+1)} {
				for _, r := range []api.Rec{{Inst: a, Mbal: b, Bal: b, Val: val}, {Inst: b, Mbal: a, Bal: b, Val: val}, {Inst: 3, Mbal: a, Bal: b, Val: val}} {
					s, e := ballot.Bytes(r)
					if (e == api.OK) != may(r) || ballot.May(r) != may(r) || (e != api.OK && (e != api.ErrArg || s != "")) {
						t.Fatalf("%+v: % x, %d", r, s, e)
					}
					ballot.At(r, a)
					ballot.At(r, b)
				}
			}
		}
	}
}

// What is called between two calls is not to be told from the second one's answer.
func TestNothingKept(t *testing.T) {
	r := api.Rec{Inst: 3, Mbal: 33, Bal: 17, Val: "x"}
	ask := func() []any {
		s, e := ballot.Bytes(r)
		o, f := ballot.Read(s)
		z, g := ballot.Read("")
		return []any{s, e, o, f, z, g, ballot.May(r), ballot.Next(3), ballot.Next(3, 19), ballot.Node(19), ballot.At(r, 3), ballot.At(r, 4)}
	}
	was := ask()
	for _, s := range none() {
		_, _ = ballot.Read(s)
	}
	for _, x := range bad() {
		_, _ = ballot.Bytes(x)
		ballot.Next(3, x.Inst, x.Mbal, x.Bal)
		ballot.At(x, 4)
		ballot.Node(x.Mbal)
	}
	if !slices.Equal(ask(), was) {
		t.Error(ask(), was)
	}
}

func TestHandedInUnchanged(t *testing.T) {
	room := []int{20, 18, -3, 7, 7, math.MaxInt, 99}
	was := slices.Clone(room)
	nextIs(t, 35, 3, room[:3]...)
	nextIs(t, 0, 3, room[:6]...)
	nextIs(t, 19, 3, room[2:4:4]...)
	nextIs(t, 0, 16, room[:3]...)
	if !slices.Equal(room, was) {
		t.Error(room)
	}
	r := api.Rec{Inst: 3, Mbal: 33, Bal: 17, Val: "x"}
	s := sectorOf(r)
	wasR, wasS := r, strings.Clone(s)
	o, e := ballot.Read(s)
	s2, f := ballot.Bytes(r)
	ballot.May(r)
	ballot.At(r, 4)
	if r != wasR || s != wasS || o != r || s2 != s || e != api.OK || f != api.OK {
		t.Error(r, s, o, s2, e, f)
	}
}
