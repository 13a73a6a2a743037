package super_test

import (
	"encoding/binary"
	"hash/crc32"
	"math"
	"slices"
	"strings"
	"testing"

	"breakwater/api"
	"breakwater/geo"
	"breakwater/super"
)

// least is the geometry of which each number is at its least, great the one of which each is at its greatest.
var (
	least = api.Geo{Nodes: 1, Slots: 1, Blocks: 1, Per: 1, Journal: 3, Log: 8, Lease: 1, Wait: 2}
	great = api.Geo{Nodes: 16, Slots: 16, Blocks: 64, Per: 8, Journal: 64, Log: 512, Lease: 1<<20 - 1, Wait: 1 << 20}
	one   = api.Geo{Nodes: 2, Slots: 1, Blocks: 2, Per: 1, Journal: 3, Log: 8, Lease: 3, Wait: 5}          // one slot of more nodes
	mixed = api.Geo{Nodes: 5, Slots: 3, Blocks: 7, Per: 4, Journal: 11, Log: 260, Lease: 258, Wait: 66051} // no two numbers are alike, some take several bytes
	tight = api.Geo{Nodes: 4, Slots: 4, Blocks: 2, Per: 8, Journal: 10, Log: 32, Lease: 6, Wait: 7}        // each number that hangs on another one stands at its bound
)

var bases = []api.Geo{least, great, one, mixed, tight}

// tails are those that may be: at the ends, and where one byte more is needed.
var tails = []int{0, 1, 2, 7, 255, 256, 257, 65535, 65536, 1<<24 - 1, 1 << 24, 1<<32 - 1, 1 << 32, 1<<32 + 1, api.MaxNumber - 2, api.MaxNumber - 1, api.MaxNumber}

// noTails are beside the tails, and such as a narrower type or six bytes alone would take for one.
var noTails = []int{-1, -2, -7, -256, api.MaxNumber + 1, api.MaxNumber + 2, 1 << 41, 1<<48 - 1, 1 << 48, 1<<48 + 7, 1 << 62, -1 << 32, -1 << 40, -1 << 48, math.MaxInt, math.MaxInt - 1, math.MinInt, math.MinInt + 1}

// numbers are where a geometry's numbers stand, so that a test can set each of them.
func numbers(g *api.Geo) []*int {
	return []*int{&g.Nodes, &g.Slots, &g.Blocks, &g.Per, &g.Journal, &g.Log, &g.Lease, &g.Wait}
}

// greatest are what the numbers' bytes in a superblock can tell at most.
var greatest = []int{65535, 65535, 65535, 65535, 65535, 65535, 4294967295, 4294967295}

func with(g api.Geo, which, n int) api.Geo {
	*numbers(&g)[which] = n
	return g
}

// may is the chapter on geometries once more, in numbers that cannot wrap round where the tests' ones stand.
func may(g api.Geo) bool {
	for _, n := range numbers(&g) {
		if *n < 1 || *n > 1<<20 {
			return false
		}
	}
	return g.Nodes <= 16 && g.Slots <= g.Nodes && g.Blocks <= 64 && g.Per <= 8 &&
		g.Journal >= g.Per+2 && g.Journal <= 64 && g.Log >= 8*g.Slots && g.Log <= 512 && g.Lease < g.Wait
}

// geometries are many that may be: each way that slots stand to nodes, and each other number at its ends and in the midst.
func geometries() []api.Geo {
	l := slices.Clone(bases)
	for n := 1; n <= 16; n++ {
		for s := 1; s <= n; s++ {
			for _, p := range []int{1, 3, 8} {
				for _, b := range []int{1, 2, 64} {
					l = append(l, api.Geo{Nodes: n, Slots: s, Blocks: b, Per: p, Journal: p + 2 + s, Log: 8*s + n, Lease: n + p, Wait: n + p + s})
				}
			}
		}
	}
	return l
}

// wrong are geometries that may not be: in one number, in two, in all.
func wrong() []api.Geo {
	far := []int{0, -1, -2, math.MaxInt, math.MinInt, math.MinInt + 1, 1<<16 + 1, 1<<16 + 2, 1<<32 + 1, 1<<32 + 3, 1<<32 + 8, 1<<48 + 8, 1<<20 + 1, 65535, 1 << 62, -1 << 61}
	l := []api.Geo{{}, with(with(least, 0, 0), 7, 0), with(with(great, 5, 513), 2, 65), with(with(mixed, 1, 6), 3, 9)}
	for _, g := range bases {
		for which := range numbers(&g) {
			for _, n := range far {
				l = append(l, with(g, which, n))
			}
			for _, n := range []int{17, 65, 9, 513, 2, 3, 1} {
				l = append(l, with(g, which, n))
			}
		}
		all := g
		for _, n := range numbers(&all) {
			*n = -*n
		}
		l = append(l, all, with(with(g, 0, math.MaxInt), 1, math.MaxInt))
	}
	for which := range numbers(&least) {
		l = append(l, with(least, which, *numbers(&least)[which]-1))
		l = append(l, with(great, which, *numbers(&great)[which]+1))
	}
	return slices.DeleteFunc(l, may)
}

// bytesOf tells a number's bytes by division alone.
func bytesOf(n, width int) string {
	b := make([]byte, 0, width)
	for range width {
		b = append(b, byte(n%256))
		n /= 256
	}
	return string(b)
}

// summed is a text with its sum behind it, as Go's own library has that: nothing that the program does is leant on.
func summed(s string) string {
	sum := crc32.Checksum([]byte(s), crc32.MakeTable(crc32.Castagnoli))
	return string(binary.LittleEndian.AppendUint32([]byte(s), sum))
}

// sealed is the sealed sector of any kind and load.
func sealed(kind int, load string) string {
	return summed(string([]byte{byte(kind), byte(len(load)), byte(len(load) >> 8)}) + load)
}

// loadOf is a superblock's load; it is asked of any numbers that the bytes can tell.
func loadOf(g api.Geo) string {
	var s string
	for i, n := range numbers(&g) {
		width := 2
		if i >= 6 {
			width = 4
		}
		s += bytesOf(*n, width)
	}
	return s
}

// superOf and headOf are the sectors by the chapter's words, of any numbers.
func superOf(g api.Geo) string { return sealed(1, loadOf(g)) }

func headOf(tail int) string { return sealed(2, bytesOf(tail, 6)) }

// atFirst is a device's sectors at first, laid down one by one in the order in which the regions stand.
func atFirst(g api.Geo) []string {
	l := []string{superOf(g)}
	for range g.Nodes + g.Nodes + g.Log {
		l = append(l, "")
	}
	for range g.Slots {
		l = append(l, headOf(0))
		for range g.Journal {
			l = append(l, "")
		}
	}
	for range g.Blocks * g.Per {
		l = append(l, "")
	}
	return l
}

func headAt(g api.Geo, slot int) int { return 1 + 2*g.Nodes + g.Log + slot*(1+g.Journal) }

func dataAt(g api.Geo) int { return headAt(g, g.Slots) }

// putAt is the same sectors with another one in that place.
func putAt(l []string, at int, s string) []string {
	m := slices.Clone(l)
	m[at] = s
	return m
}

// harmed are all texts that differ from s in one bit, in its length, or in a byte beside it.
func harmed(s string) []string {
	var l []string
	for i := range 8 * len(s) {
		b := []byte(s)
		b[i/8] ^= 1 << (i % 8)
		l = append(l, string(b))
	}
	for i := range s {
		l = append(l, s[:i], s[i+1:], s[:i]+s[i+1:])
	}
	return append(l, s+"\x00", "\x00"+s, s+s, s+strings.Repeat("\x00", api.SectorSize-len(s)), s+"x", strings.ToUpper(s)+" ")
}

// noSectors are no sealed sectors of any kind.
func noSectors() []string {
	return []string{"", "\x00", "\x01", "\x01\x00\x00", "abc", strings.Repeat("\x00", 13), strings.Repeat("\x00", 27), strings.Repeat("\xff", 27),
		strings.Repeat("\x00", api.SectorSize), strings.Repeat("\x01", api.SectorSize), strings.Repeat("\x00", 1<<20), summed(""), summed("\x01"), summed("\x02\x00")}
}

func readsNot(t *testing.T, s string) {
	t.Helper()
	if g, e := super.Read(s); e != api.ErrCorrupt || g != (api.Geo{}) {
		t.Fatalf("Read of %d bytes % x: %+v, %d", len(s), s[:min(len(s), 40)], g, e)
	}
}

func hasNoTail(t *testing.T, s string) {
	t.Helper()
	if n, e := super.Tail(s); e != api.ErrCorrupt || n != 0 {
		t.Fatalf("Tail of %d bytes % x: %d, %d", len(s), s[:min(len(s), 40)], n, e)
	}
}

func checksNot(t *testing.T, sectors []string) {
	t.Helper()
	if g, e := super.Check(sectors); e != api.ErrCorrupt || g != (api.Geo{}) {
		t.Fatalf("Check of %d sectors: %+v, %d", len(sectors), g, e)
	}
}

func checks(t *testing.T, sectors []string, want api.Geo) {
	t.Helper()
	if g, e := super.Check(sectors); e != api.OK || g != want {
		t.Fatalf("Check of %d sectors: %+v, %d; not %+v", len(sectors), g, e, want)
	}
}

func TestNumbersOfTheChapter(t *testing.T) {
	if api.OK != 0 || api.ErrArg != 2 || api.ErrGeo != 40 || api.ErrCorrupt != 50 || api.MaxNumber != 1<<40 || api.SectorSize != 512 || api.Pay != 256 {
		t.Error(api.OK, api.ErrArg, api.ErrGeo, api.ErrCorrupt, api.MaxNumber, api.SectorSize, api.Pay)
	}
}

// P5.1, Bytes.

func TestBytesByHand(t *testing.T) {
	for _, x := range []struct {
		g    api.Geo
		want string
	}{
		{least, "\x01\x14\x00" + "\x01\x00\x01\x00\x01\x00\x01\x00\x03\x00\x08\x00" + "\x01\x00\x00\x00\x02\x00\x00\x00"},
		{great, "\x01\x14\x00" + "\x10\x00\x10\x00\x40\x00\x08\x00\x40\x00\x00\x02" + "\xff\xff\x0f\x00\x00\x00\x10\x00"},
		{mixed, "\x01\x14\x00" + "\x05\x00\x03\x00\x07\x00\x04\x00\x0b\x00\x04\x01" + "\x02\x01\x00\x00\x03\x02\x01\x00"},
	} {
		if s, e := super.Bytes(x.g); e != api.OK || s != summed(x.want) || len(s) != 27 {
			t.Errorf("%+v: % x, %d", x.g, s, e)
		}
	}
}

func TestBytesOfMany(t *testing.T) {
	for _, g := range geometries() {
		if s, e := super.Bytes(g); e != api.OK || s != superOf(g) {
			t.Fatalf("%+v: % x, %d", g, s, e)
		}
	}
}

func TestBytesOfEachNumber(t *testing.T) {
	for _, g := range bases {
		for which := range numbers(&g) {
			for n := range 600 {
				h := with(g, which, n)
				s, e := super.Bytes(h)
				if may(h) && (e != api.OK || s != superOf(h)) || !may(h) && (e != api.ErrGeo || s != "") {
					t.Fatalf("%+v: % x, %d", h, s, e)
				}
			}
		}
	}
}

func TestBytesOfNone(t *testing.T) {
	for _, g := range wrong() {
		if s, e := super.Bytes(g); e != api.ErrGeo || s != "" {
			t.Fatalf("%+v: % x, %d", g, s, e)
		}
	}
}

// P5.1, Read.

func TestReadOfMany(t *testing.T) {
	for _, g := range geometries() {
		if h, e := super.Read(superOf(g)); e != api.OK || h != g {
			t.Fatalf("%+v: %+v, %d", g, h, e)
		}
	}
}

// Of a sector that is sealed as it must be, with numbers of which no geometry is.
func TestReadOfNoGeometry(t *testing.T) {
	for _, g := range wrong() {
		ns := numbers(&g)
		if !slices.ContainsFunc([]int{0, 1, 2, 3, 4, 5, 6, 7}, func(i int) bool { return *ns[i] < 0 || *ns[i] > greatest[i] }) {
			readsNot(t, superOf(g))
		}
	}
	for _, g := range bases {
		for which, n := range greatest {
			readsNot(t, superOf(with(g, which, n)))
			readsNot(t, superOf(with(g, which, 0)))
		}
		readsNot(t, superOf(with(g, 7, g.Lease)))
		readsNot(t, superOf(with(g, 7, 1<<20+1)))
		readsNot(t, superOf(with(g, 1, g.Nodes+1)))
		readsNot(t, superOf(with(g, 4, g.Per+1)))
		readsNot(t, superOf(with(g, 5, 8*g.Slots-1)))
	}
}

func TestReadOfHarmed(t *testing.T) {
	for _, g := range bases {
		for _, s := range harmed(superOf(g)) {
			readsNot(t, s)
		}
	}
}

func TestReadOfOtherForms(t *testing.T) {
	for _, g := range bases {
		load := loadOf(g)
		for kind := range 256 {
			if kind != 1 {
				readsNot(t, sealed(kind, load))
			}
		}
		for i := range load {
			readsNot(t, sealed(1, load[:i]))
		}
		for _, rest := range []string{"\x00", "x", load, "\x00\x00", strings.Repeat("\x00", 505-len(load)), strings.Repeat("a", 506-len(load))} {
			readsNot(t, sealed(1, load+rest))
			readsNot(t, sealed(1, rest+load))
		}
		readsNot(t, load)
		readsNot(t, summed(load))
	}
	for _, s := range noSectors() {
		readsNot(t, s)
	}
	for _, n := range tails {
		readsNot(t, headOf(n))
		readsNot(t, sealed(1, bytesOf(n, 6)))
	}
}

// P5.1, Head.

func TestHeadByHand(t *testing.T) {
	for _, x := range []struct {
		tail int
		want string
	}{
		{0, "\x02\x06\x00\x00\x00\x00\x00\x00\x00"},
		{7, "\x02\x06\x00\x07\x00\x00\x00\x00\x00"},
		{0x0102030405, "\x02\x06\x00\x05\x04\x03\x02\x01\x00"},
		{1<<40 - 1, "\x02\x06\x00\xff\xff\xff\xff\xff\x00"},
		{1 << 40, "\x02\x06\x00\x00\x00\x00\x00\x00\x01"},
	} {
		if s, e := super.Head(x.tail); e != api.OK || s != summed(x.want) || len(s) != 13 {
			t.Errorf("%d: % x, %d", x.tail, s, e)
		}
	}
}

func TestHead(t *testing.T) {
	for _, n := range tails {
		if s, e := super.Head(n); e != api.OK || s != headOf(n) {
			t.Errorf("%d: % x, %d", n, s, e)
		}
	}
	for _, n := range noTails {
		if s, e := super.Head(n); e != api.ErrArg || s != "" {
			t.Errorf("%d: % x, %d", n, s, e)
		}
	}
}

// P5.1, Tail.

func TestTail(t *testing.T) {
	for _, n := range tails {
		if m, e := super.Tail(headOf(n)); e != api.OK || m != n {
			t.Errorf("%d: %d, %d", n, m, e)
		}
	}
	if s, e := super.Head(7); e != api.OK {
		t.Error(e)
	} else if n, e := super.Tail(s); e != api.OK || n != 7 {
		t.Error(n, e)
	}
}

func TestTailOfHarmed(t *testing.T) {
	for _, n := range tails {
		for _, s := range harmed(headOf(n)) {
			hasNoTail(t, s)
		}
	}
}

func TestTailOfOtherForms(t *testing.T) {
	for _, n := range tails {
		load := bytesOf(n, 6)
		for kind := range 256 {
			if kind != 2 {
				hasNoTail(t, sealed(kind, load))
			}
		}
		for i := range load {
			hasNoTail(t, sealed(2, load[:i]))
		}
		for _, rest := range []string{"\x00", "x", load, strings.Repeat("\x00", 499), strings.Repeat("a", 500)} {
			hasNoTail(t, sealed(2, load+rest))
		}
		hasNoTail(t, load)
		hasNoTail(t, summed(load))
	}
	for _, s := range append(noSectors(), sealed(2, "")) {
		hasNoTail(t, s)
	}
	for _, g := range bases {
		hasNoTail(t, superOf(g))
		hasNoTail(t, sealed(2, loadOf(g)))
	}
}

// Of a sector that is sealed as it must be, with six bytes that are more than any tail.
func TestTailAboveAll(t *testing.T) {
	for _, n := range []int{api.MaxNumber + 1, api.MaxNumber + 256, api.MaxNumber + 1<<39, 1 << 41, 1<<41 + 7, 1<<48 - 1} {
		hasNoTail(t, headOf(n))
	}
}

// P5.2, Format.

func TestFormat(t *testing.T) {
	for _, g := range geometries() {
		l, e := super.Format(g)
		if e != api.OK || !slices.Equal(l, atFirst(g)) || len(l) != geo.Total(g) {
			t.Fatalf("%+v: %d sectors, %d", g, len(l), e)
		}
	}
}

func TestFormatByPlace(t *testing.T) {
	for _, g := range bases {
		l, e := super.Format(g)
		if e != api.OK || len(l) != geo.Total(g) {
			t.Fatal(g, len(l), e)
		}
		heads := 0
		for i, s := range l {
			switch kind, _, _ := geo.What(g, i); {
			case kind == geo.RgSuper && s == superOf(g) && i == 0:
			case kind == geo.RgHead && s == headOf(0):
				heads++
			case kind != geo.RgSuper && kind != geo.RgHead && s == "":
			default:
				t.Fatalf("%+v: sector %d: % x", g, i, s)
			}
		}
		if heads != g.Slots {
			t.Error(g, heads)
		}
		for slot := range g.Slots {
			if l[geo.Head(g, slot)] != headOf(0) {
				t.Error(g, slot)
			}
		}
	}
}

func TestFormatOfNone(t *testing.T) {
	for _, g := range wrong() {
		if l, e := super.Format(g); e != api.ErrGeo || len(l) != 0 {
			t.Fatalf("%+v: %d sectors, %d", g, len(l), e)
		}
	}
}

// P5.2, Check.

func TestCheck(t *testing.T) {
	for _, g := range geometries() {
		checks(t, atFirst(g), g)
	}
}

func TestCheckOfNone(t *testing.T) {
	checksNot(t, nil)
	checksNot(t, []string{})
	for n := range 40 {
		checksNot(t, make([]string, n))
	}
}

func TestCheckOfOtherCounts(t *testing.T) {
	for _, g := range bases {
		l := atFirst(g)
		for i := range l {
			checksNot(t, l[:i])
		}
		checksNot(t, l[1:])
		for _, s := range []string{"", superOf(g), headOf(0), "x"} {
			checksNot(t, append(slices.Clone(l), s))
			checksNot(t, append([]string{s}, l...))
		}
		checksNot(t, append(slices.Clone(l), l...))
		checksNot(t, slices.Concat(l, make([]string, 1<<16)))
	}
}

// Of rows so great that to look at all of them would be felt: the count alone refuses them.
func TestCheckOfGreatRows(t *testing.T) {
	for _, g := range []api.Geo{least, great} {
		l := make([]string, 1<<22)
		copy(l, atFirst(g))
		for range 2000 {
			checksNot(t, l)
		}
	}
	checksNot(t, make([]string, 1<<22))
	s := strings.Repeat("x", 1<<26)
	l := atFirst(mixed)
	for i := range l {
		checksNot(t, putAt(l, i, s))
	}
}

func TestCheckOfOtherSuperblocks(t *testing.T) {
	for _, g := range bases {
		l := atFirst(g)
		for _, s := range slices.Concat(harmed(superOf(g)), noSectors()) {
			checksNot(t, putAt(l, 0, s))
		}
		for _, n := range tails {
			checksNot(t, putAt(l, 0, headOf(n)))
		}
		checksNot(t, putAt(l, 0, superOf(with(g, 7, g.Lease))))
		checksNot(t, putAt(l, 0, superOf(with(g, 0, 0))))
		checksNot(t, putAt(l, 0, superOf(with(g, 5, 513))))
		checksNot(t, putAt(l, 0, sealed(2, loadOf(g))))
		for _, h := range bases {
			if h != g {
				checksNot(t, putAt(l, 0, superOf(h)))
			}
		}
	}
}

// The count being the same, the headers of another geometry stand elsewhere.
func TestCheckOfAnotherGeometryOfThatCount(t *testing.T) {
	a := api.Geo{Nodes: 2, Slots: 2, Blocks: 4, Per: 1, Journal: 4, Log: 20, Lease: 1, Wait: 2}
	for _, b := range []api.Geo{
		{Nodes: 3, Slots: 2, Blocks: 2, Per: 1, Journal: 4, Log: 20, Lease: 1, Wait: 2},
		{Nodes: 2, Slots: 2, Blocks: 3, Per: 1, Journal: 4, Log: 21, Lease: 1, Wait: 2},
		{Nodes: 2, Slots: 2, Blocks: 2, Per: 1, Journal: 5, Log: 20, Lease: 1, Wait: 2},
	} {
		if len(atFirst(a)) != len(atFirst(b)) {
			t.Fatal(b)
		}
		checksNot(t, putAt(atFirst(a), 0, superOf(b)))
		checksNot(t, putAt(atFirst(b), 0, superOf(a)))
	}
	b := a
	b.Lease, b.Wait, b.Blocks, b.Per = 5, 9, 2, 2 // all headers stand where they stood
	checks(t, putAt(atFirst(a), 0, superOf(b)), b)
}

func TestCheckOfHeaders(t *testing.T) {
	for _, g := range bases {
		l := atFirst(g)
		for slot := range g.Slots {
			at := headAt(g, slot)
			for _, n := range tails {
				checks(t, putAt(l, at, headOf(n)), g)
			}
			for _, n := range []int{api.MaxNumber + 1, 1<<48 - 1} {
				checksNot(t, putAt(l, at, headOf(n)))
			}
			for _, s := range []string{"", "x", superOf(g), sealed(2, ""), sealed(2, bytesOf(7, 5)), sealed(2, bytesOf(7, 7)), sealed(1, bytesOf(7, 6)), sealed(3, bytesOf(7, 6)), headOf(7) + "\x00"} {
				checksNot(t, putAt(l, at, s))
			}
		}
		for _, slot := range []int{0, g.Slots - 1} {
			for _, s := range slices.Concat(harmed(headOf(0)), harmed(headOf(1<<40-2)), noSectors()) {
				checksNot(t, putAt(l, headAt(g, slot), s))
			}
		}
	}
}

// Each slot's header with a tail of its own.
func TestCheckOfManyTails(t *testing.T) {
	for _, g := range bases {
		l := atFirst(g)
		for slot := range g.Slots {
			l[headAt(g, slot)] = headOf(slot*1000003 + 1)
		}
		checks(t, l, g)
	}
}

// Whatever stands in the other sectors, its size alone is asked.
func TestCheckOfOtherSectors(t *testing.T) {
	for _, g := range bases {
		l := atFirst(g)
		for i := range l {
			most := api.SectorSize
			switch kind, _, _ := geo.What(g, i); kind {
			case geo.RgSuper, geo.RgHead:
				continue
			case geo.RgData:
				most = api.Pay
			}
			if (most == api.Pay) != (i >= dataAt(g)) {
				t.Fatal(g, i, most)
			}
			for _, s := range []string{"x", "\x00", superOf(g), headOf(7), strings.Repeat("\xff", most-1), strings.Repeat("a", most)} {
				checks(t, putAt(l, i, s), g)
			}
			for _, size := range []int{most + 1, most + 2, 2 * most, 1 << 16, 1<<16 + 1} {
				if size != most {
					checksNot(t, putAt(l, i, strings.Repeat("a", size)))
				}
			}
		}
	}
}

func TestCheckOfFullSectors(t *testing.T) {
	for _, g := range bases {
		l := atFirst(g)
		for i := range l {
			switch kind, _, _ := geo.What(g, i); kind {
			case geo.RgData:
				l[i] = strings.Repeat("d", api.Pay)
			case geo.RgSuper, geo.RgHead:
			default:
				l[i] = strings.Repeat("s", api.SectorSize)
			}
		}
		checks(t, l, g)
		checksNot(t, putAt(l, len(l)-1, strings.Repeat("d", api.Pay+1)))
		checksNot(t, putAt(l, dataAt(g), strings.Repeat("d", api.Pay+1)))
		checksNot(t, putAt(l, dataAt(g)-1, strings.Repeat("d", api.SectorSize+1)))
		checksNot(t, putAt(l, 1, strings.Repeat("d", api.SectorSize+1)))
	}
}

// P5.3.

func TestThereAndBack(t *testing.T) {
	for _, g := range geometries() {
		s, e := super.Bytes(g)
		h, f := super.Read(s)
		if e != api.OK || f != api.OK || h != g {
			t.Fatal(g, h, e, f)
		}
		if b, e := super.Bytes(h); e != api.OK || b != s {
			t.Fatal(g, e)
		}
		l, e := super.Format(g)
		h, f = super.Check(l)
		if e != api.OK || f != api.OK || h != g {
			t.Fatal(g, h, e, f)
		}
	}
	for _, n := range tails {
		s, e := super.Head(n)
		m, f := super.Tail(s)
		if e != api.OK || f != api.OK || m != n {
			t.Fatal(n, m, e, f)
		}
	}
}

// Bytes of Read is the sector, whatever text that is which Read takes: no two texts are read as one geometry.
func TestBackAndThere(t *testing.T) {
	for _, g := range bases {
		for which := range numbers(&g) {
			for n := range 300 {
				s := superOf(with(g, which, n))
				h, e := super.Read(s)
				if e != api.OK {
					continue
				}
				if b, e := super.Bytes(h); e != api.OK || b != s {
					t.Fatalf("%+v: % x, %d", h, b, e)
				}
			}
		}
	}
}

// R3, R4.

func TestAgain(t *testing.T) {
	for _, g := range append(slices.Clone(bases), wrong()...) {
		a, e := super.Format(g)
		b, f := super.Format(g)
		if e != f || !slices.Equal(a, b) {
			t.Fatal(g, e, f)
		}
		x, e := super.Check(a)
		y, f := super.Check(a)
		if e != f || x != y {
			t.Fatal(g, x, y, e, f)
		}
	}
}

func TestNothingIsChanged(t *testing.T) {
	for _, g := range bases {
		l := append(atFirst(g), "behind", "it")
		before := slices.Clone(l)
		checks(t, l[:len(l)-2], g)
		checksNot(t, l[:len(l)-1])
		if !slices.Equal(l, before) {
			t.Fatal(g)
		}
	}
}

func TestAnswersAreNew(t *testing.T) {
	for _, g := range bases {
		a, _ := super.Format(g)
		b, _ := super.Format(g)
		a = a[:cap(a)]
		for i := range a {
			a[i] = "spoilt"
		}
		c, e := super.Format(g)
		if e != api.OK || !slices.Equal(b, atFirst(g)) || !slices.Equal(c, atFirst(g)) {
			t.Fatal(g, e)
		}
		checksNot(t, a)
		checks(t, c, g)
	}
}
