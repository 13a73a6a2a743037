package geo_test

import (
	"math"
	"slices"
	"strings"
	"testing"

	"breakwater/api"
	"breakwater/geo"
)

const nowhere = -1

// thing is what stands in a sector, and of whom.
type thing struct {
	kind int8
	a, b int
}

// least is the geometry of which each number is at its least, great the one of which each is at its greatest.
var (
	least = api.Geo{Nodes: 1, Slots: 1, Blocks: 1, Per: 1, Journal: 3, Log: 8, Lease: 1, Wait: 2}
	great = api.Geo{Nodes: 16, Slots: 16, Blocks: 64, Per: 8, Journal: 64, Log: 512, Lease: 1<<20 - 1, Wait: 1 << 20}
	table = api.Geo{Nodes: 2, Slots: 1, Blocks: 1, Per: 1, Journal: 3, Log: 8, Lease: 1, Wait: 2} // the one of the chapter's examples
	mixed = api.Geo{Nodes: 5, Slots: 3, Blocks: 7, Per: 4, Journal: 11, Log: 29, Lease: 10, Wait: 40}
	tight = api.Geo{Nodes: 4, Slots: 4, Blocks: 2, Per: 8, Journal: 10, Log: 32, Lease: 6, Wait: 7} // each number that hangs on another one stands at its bound
)

// bases are what tests set out from.
var bases = []api.Geo{least, great, table, mixed, tight}

// numbers are where a geometry's numbers stand, so that a test can set each of them.
func numbers(g *api.Geo) []*int {
	return []*int{&g.Nodes, &g.Slots, &g.Blocks, &g.Per, &g.Journal, &g.Log, &g.Lease, &g.Wait}
}

// The numbers' places in numbers.
const (
	nodes = iota
	slots
	blocks
	per
	journal
	log
	lease
	wait
)

func with(g api.Geo, which, n int) api.Geo {
	*numbers(&g)[which] = n
	return g
}

// far are numbers such that a sum, a product or a narrower type would wrap round to one that may be.
var far = []int{
	math.MaxInt, math.MaxInt - 1, math.MaxInt - 2, math.MaxInt - 7, math.MinInt, math.MinInt + 1, math.MinInt + 2,
	1 << 60, 1<<60 + 1, 1 << 61, 1<<61 + 1, 1<<61 + 2, 1 << 62, 1<<62 + 1, -1 << 61, -1 << 62, -1<<61 + 1,
	1<<32 + 1, 1<<32 + 3, 1 << 32, 1<<31 + 8, 1<<40 + 2, -1 << 32, -1<<32 + 8, 1<<20 + 1,
}

// walk is what stands in each sector, laid down one by one in the order that the chapter tells.
func walk(g api.Geo) []thing {
	l := []thing{{geo.RgSuper, 0, 0}}
	for node := range g.Nodes {
		l = append(l, thing{geo.RgLease, node, 0})
	}
	for node := range g.Nodes {
		l = append(l, thing{geo.RgPaxos, node, 0})
	}
	for i := range g.Log {
		l = append(l, thing{geo.RgLog, i, 0})
	}
	for slot := range g.Slots {
		l = append(l, thing{geo.RgHead, slot, 0})
		for place := range g.Journal {
			l = append(l, thing{geo.RgJournal, slot, place})
		}
	}
	for block := range g.Blocks {
		for k := range g.Per {
			l = append(l, thing{geo.RgData, block, k})
		}
	}
	return l
}

// sectorOf asks the program where that thing stands.
func sectorOf(g api.Geo, x thing) int {
	switch x.kind {
	case geo.RgSuper:
		return 0
	case geo.RgLease:
		return geo.Lease(g, x.a)
	case geo.RgPaxos:
		return geo.Paxos(g, x.a)
	case geo.RgLog:
		return geo.Log(g, x.a)
	case geo.RgHead:
		return geo.Head(g, x.a)
	case geo.RgJournal:
		return geo.Journal(g, x.a, x.b)
	case geo.RgData:
		return geo.Data(g, x.a, x.b)
	}
	return nowhere
}

func what(g api.Geo, sector int) thing {
	kind, a, b := geo.What(g, sector)
	return thing{kind, a, b}
}

// geometries are many that may be: each way that slots stand to nodes, and each other number at its ends and in the midst.
func geometries() []api.Geo {
	l := slices.Clone(bases)
	for _, n := range []int{1, 2, 3, 15, 16} {
		for s := 1; s <= n; s++ {
			for _, b := range []int{1, 2, 64} {
				for _, p := range []int{1, 3, 8} {
					for _, j := range []int{p + 2, p + 3, 64} {
						for _, c := range []int{8 * s, 8*s + 1, 512} {
							l = append(l, api.Geo{Nodes: n, Slots: s, Blocks: b, Per: p, Journal: j, Log: c, Lease: n + p, Wait: n + p + s})
						}
					}
				}
			}
		}
	}
	return l
}

// mayNot asks that the geometry may not be, and that nothing stands anywhere.
func mayNot(t *testing.T, g api.Geo) {
	t.Helper()
	if geo.May(g) || geo.Total(g) != 0 || geo.Rest(g) != 0 {
		t.Fatalf("%+v: May %v, Total %d, Rest %d", g, geo.May(g), geo.Total(g), geo.Rest(g))
	}
	for _, n := range []int{0, 1, -1, 7, math.MaxInt, math.MinInt} {
		one := []int{geo.Lease(g, n), geo.Paxos(g, n), geo.Log(g, n), geo.Head(g, n)}
		for _, k := range []int{0, 1, -1, math.MaxInt, math.MinInt} {
			one = append(one, geo.Journal(g, n, k), geo.Data(g, n, k))
		}
		for i, sector := range one {
			if sector != nowhere {
				t.Fatalf("%+v: call %d of %d answers %d", g, i, n, sector)
			}
		}
	}
	for _, sector := range []int{0, 1, 2, 3, 8, 13, 14, 17, 18, -1, 1632, math.MaxInt, math.MinInt} {
		if x := what(g, sector); x != (thing{}) {
			t.Fatalf("%+v: What of %d is %v", g, sector, x)
		}
	}
}

func mayBe(t *testing.T, g api.Geo) {
	t.Helper()
	if !geo.May(g) || geo.Total(g) != len(walk(g)) || geo.Rest(g) != 4*g.Slots {
		t.Fatalf("%+v: May %v, Total %d, Rest %d", g, geo.May(g), geo.Total(g), geo.Rest(g))
	}
}

func asks(t *testing.T, g api.Geo, may bool) {
	t.Helper()
	if may {
		mayBe(t, g)
	} else {
		mayNot(t, g)
	}
}

func TestNumbersOfTheChapter(t *testing.T) {
	kinds := []int8{geo.RgNone, geo.RgSuper, geo.RgLease, geo.RgPaxos, geo.RgLog, geo.RgHead, geo.RgJournal, geo.RgData}
	if !slices.Equal(kinds, []int8{0, 1, 2, 3, 4, 5, 6, 7}) {
		t.Error(kinds)
	}
	limits := []int{api.MaxNodes, api.MaxBlocks, api.MaxPer, api.MaxJournal, api.MaxLog, api.MaxTicks}
	if !slices.Equal(limits, []int{16, 64, 8, 64, 512, 1048576}) {
		t.Error(limits)
	}
}

// P4.1, May.

// ends are the least and the greatest of each number, the others of the geometry standing as they do.
var ends = []struct {
	g        api.Geo
	from, to [8]int
}{
	{least, [8]int{1, 1, 1, 1, 3, 8, 1, 2}, [8]int{16, 1, 64, 1, 64, 512, 1, 1 << 20}},
	{great, [8]int{16, 1, 1, 1, 10, 128, 1, 1 << 20}, [8]int{16, 16, 64, 8, 64, 512, 1<<20 - 1, 1 << 20}},
	{mixed, [8]int{3, 1, 1, 1, 6, 24, 1, 11}, [8]int{16, 3, 64, 8, 64, 512, 39, 1 << 20}},
	{tight, [8]int{4, 1, 1, 1, 10, 32, 1, 7}, [8]int{16, 4, 64, 8, 64, 512, 6, 1 << 20}},
	{with(tight, log, 512), [8]int{4, 1, 1, 1, 10, 32, 1, 7}, [8]int{16, 4, 64, 8, 64, 512, 6, 1 << 20}},
	{with(great, log, 128), [8]int{16, 1, 1, 1, 10, 128, 1, 1 << 20}, [8]int{16, 16, 64, 8, 64, 512, 1<<20 - 1, 1 << 20}},
	{with(great, journal, 10), [8]int{16, 1, 1, 1, 10, 128, 1, 1 << 20}, [8]int{16, 16, 64, 8, 64, 512, 1<<20 - 1, 1 << 20}},
	{with(great, slots, 15), [8]int{15, 1, 1, 1, 10, 120, 1, 1 << 20}, [8]int{16, 16, 64, 8, 64, 512, 1<<20 - 1, 1 << 20}},
	{with(with(great, lease, 1), wait, 2), [8]int{16, 1, 1, 1, 10, 128, 1, 2}, [8]int{16, 16, 64, 8, 64, 512, 1, 1 << 20}},
}

func TestMayEachNumberAtItsEnds(t *testing.T) {
	for _, x := range ends {
		for which := range 8 {
			from, to := x.from[which], x.to[which]
			for _, n := range []int{from, to, min(from+1, to), max(from, to-1), (from + to) / 2} {
				mayBe(t, with(x.g, which, n))
			}
			for _, n := range []int{from - 1, from - 2, to + 1, to + 2, 2*to + 1, 0, -1, -from, -to} {
				mayNot(t, with(x.g, which, n))
			}
		}
	}
}

func TestMayEachNumberAllAlong(t *testing.T) {
	for _, x := range ends {
		for which := range 8 {
			for n := -20; n <= 600; n++ {
				for _, m := range []int{n, n + 1<<16, n + 1<<20} {
					g := with(x.g, which, m)
					if want := x.from[which] <= m && m <= x.to[which]; geo.May(g) != want {
						t.Fatalf("May(%+v) is %v", g, !want)
					}
				}
			}
		}
	}
}

func TestMaySlotsByNodes(t *testing.T) {
	for n := -2; n <= 18; n++ {
		for s := -2; s <= 19; s++ {
			g := with(with(with(least, log, 512), nodes, n), slots, s)
			asks(t, g, 1 <= s && s <= n && n <= 16)
		}
	}
	for n := 1; n <= 16; n++ {
		mayBe(t, with(with(great, nodes, n), slots, n))
		mayNot(t, with(with(great, nodes, n), slots, n+1))
	}
}

func TestMayJournalByPer(t *testing.T) {
	for p := -3; p <= 66; p++ {
		for j := -3; j <= 70; j++ {
			g := with(with(mixed, per, p), journal, j)
			asks(t, g, 1 <= p && p <= 8 && p+2 <= j && j <= 64)
		}
	}
}

func TestMayLogBySlots(t *testing.T) {
	for s := 1; s <= 16; s++ {
		g := with(great, slots, s)
		for _, off := range []int{-8, -7, -2, -1, 0, 1, 7, 8} {
			asks(t, with(g, log, 8*s+off), off >= 0)
		}
		mayNot(t, with(g, log, s))
		mayNot(t, with(g, log, 4*s))
		mayNot(t, with(g, log, 513))
	}
	for n := 1; n <= 16; n++ { // it hangs on slots, not on nodes
		mayBe(t, with(with(with(great, nodes, n), slots, 1), log, 8))
	}
}

func TestMayWaitByLease(t *testing.T) {
	for _, n := range []int{1, 2, 3, 100, 1<<20 - 2, 1<<20 - 1, 1 << 20, 1<<20 + 1} {
		for off := -3; off <= 3; off++ {
			g := with(with(mixed, lease, n), wait, n+off)
			asks(t, g, off > 0 && n+off <= 1<<20)
		}
	}
	for _, n := range []int{0, -1, -5, math.MinInt} {
		for _, w := range []int{-6, -1, 0, 1, 2, 1 << 20, math.MinInt, math.MaxInt} {
			mayNot(t, with(with(mixed, lease, n), wait, w))
		}
	}
	for _, w := range []int{math.MinInt, math.MinInt + 1, -1, 0, 1, 2, 1 << 20} {
		mayNot(t, with(with(mixed, lease, math.MaxInt), wait, w))
		mayNot(t, with(with(mixed, lease, math.MaxInt-1), wait, w))
	}
}

func TestMayManyThatMayBe(t *testing.T) {
	for _, g := range geometries() {
		mayBe(t, g)
	}
}

func TestMayNotWhereNumbersGoFar(t *testing.T) {
	for _, g := range bases {
		for which := range 8 {
			for _, n := range far {
				mayNot(t, with(g, which, n))
			}
		}
	}
}

func TestMayNotWhereTwoNumbersGoFar(t *testing.T) {
	wrong := append([]int{0, -1, -8}, far...)
	for _, g := range []api.Geo{least, great} {
		for one := range 8 {
			for other := range one {
				for _, n := range wrong {
					for _, m := range wrong {
						mayNot(t, with(with(g, one, n), other, m))
					}
				}
			}
		}
	}
}

func TestMayNotWhereAllNumbersAreWrong(t *testing.T) {
	for _, n := range append([]int{0, -1, -8}, far...) {
		mayNot(t, api.Geo{Nodes: n, Slots: n, Blocks: n, Per: n, Journal: n, Log: n, Lease: n, Wait: n})
	}
	mayNot(t, api.Geo{})
	for many := 1; many < 1<<8; many++ { // each of the ways in which some are wrong and the others not
		for _, wrong := range [][8]int{{17, 17, 65, 9, 65, 513, 1 << 20, 1<<20 + 1}, {0, 0, 0, 0, 0, 0, 0, 0}, {-1, -1, -1, -1, -1, -1, -1, -1}, {-2, -3, -2, -3, -2, -24, -9, -8}} {
			g := least
			for which := range 8 {
				if many>>which&1 != 0 {
					g = with(g, which, wrong[which])
				}
			}
			mayNot(t, g)
		}
	}
}

// P4.1, Total and Rest.

func TestTotalAndRestByHand(t *testing.T) {
	for _, x := range []struct {
		g           api.Geo
		total, rest int
	}{
		{least, 1 + 1 + 1 + 8 + 4 + 1, 4},
		{table, 18, 4},
		{great, 1 + 16 + 16 + 512 + 16*65 + 512, 64},
		{mixed, 1 + 5 + 5 + 29 + 3*12 + 28, 12},
		{tight, 1 + 4 + 4 + 32 + 4*11 + 16, 16},
	} {
		if geo.Total(x.g) != x.total || geo.Rest(x.g) != x.rest {
			t.Errorf("%+v: %d, %d; not %d, %d", x.g, geo.Total(x.g), geo.Rest(x.g), x.total, x.rest)
		}
	}
}

func TestRestOfEachNumberOfSlots(t *testing.T) {
	for s := 1; s <= 16; s++ {
		for n := s; n <= 16; n++ {
			if g := with(with(great, nodes, n), slots, s); geo.Rest(g) != 4*s {
				t.Errorf("%+v: %d", g, geo.Rest(g))
			}
		}
	}
}

// P4.1, Bytes.

func TestBytes(t *testing.T) {
	for i, x := range []struct {
		l    []string
		want int
	}{
		{nil, 0},
		{[]string{}, 0},
		{[]string{""}, 0},
		{[]string{"", "", ""}, 0},
		{[]string{"a"}, 1},
		{[]string{"ab", "", "c"}, 3},
		{[]string{"", "abc"}, 3},
		{[]string{"abc", ""}, 3},
		{[]string{"\x00\x00", "\xff"}, 3},
		{[]string{"é", "水"}, 5}, // bytes, not letters
		{[]string{strings.Repeat("x", 512), strings.Repeat("y", 256), "z"}, 769},
		{[]string{strings.Repeat("x", 1<<20)}, 1 << 20},
		{slices.Repeat([]string{"abc", "", "de"}, 100000), 500000},
		{slices.Repeat([]string{""}, 1<<20), 0},
	} {
		if n := geo.Bytes(x.l...); n != x.want {
			t.Errorf("%d: %d, not %d", i, n, x.want)
		}
	}
	if geo.Bytes() != 0 || geo.Bytes("a", "bc", "def") != 6 {
		t.Error(geo.Bytes(), geo.Bytes("a", "bc", "def"))
	}
}

func TestBytesOfMoreAndMoreSectors(t *testing.T) {
	var l []string
	want := 0
	for size := range 600 {
		l = append(l, strings.Repeat("s", size))
		want += size
		if n := geo.Bytes(l...); n != want {
			t.Fatalf("up to %d: %d, not %d", size, n, want)
		}
	}
}

func TestBytesLeavesWhatIsHandedIn(t *testing.T) {
	whole := []string{"one", "", "three", "behind"}
	if n := geo.Bytes(whole[:3]...); n != 8 || !slices.Equal(whole, []string{"one", "", "three", "behind"}) {
		t.Error(n, whole)
	}
}

// P4.2.

func TestExamplesOfTheChapter(t *testing.T) {
	got := []int{geo.Lease(table, 1), geo.Paxos(table, 0), geo.Log(table, 0), geo.Head(table, 0), geo.Journal(table, 0, 4), geo.Data(table, 0, 0)}
	if !slices.Equal(got, []int{2, 3, 5, 13, 15, 17}) {
		t.Error(got)
	}
}

func TestWhereByHand(t *testing.T) {
	for _, x := range []struct {
		g    api.Geo
		what thing
		want int
	}{
		{mixed, thing{geo.RgLease, 0, 0}, 1}, {mixed, thing{geo.RgLease, 4, 0}, 5},
		{mixed, thing{geo.RgPaxos, 0, 0}, 6}, {mixed, thing{geo.RgPaxos, 4, 0}, 10},
		{mixed, thing{geo.RgLog, 0, 0}, 11}, {mixed, thing{geo.RgLog, 28, 0}, 39},
		{mixed, thing{geo.RgHead, 0, 0}, 40}, {mixed, thing{geo.RgHead, 1, 0}, 52}, {mixed, thing{geo.RgHead, 2, 0}, 64},
		{mixed, thing{geo.RgJournal, 0, 0}, 41}, {mixed, thing{geo.RgJournal, 0, 10}, 51}, {mixed, thing{geo.RgJournal, 0, 11}, 41},
		{mixed, thing{geo.RgJournal, 1, 0}, 53}, {mixed, thing{geo.RgJournal, 2, 10}, 75}, {mixed, thing{geo.RgJournal, 2, 25}, 68},
		{mixed, thing{geo.RgData, 0, 0}, 76}, {mixed, thing{geo.RgData, 0, 3}, 79}, {mixed, thing{geo.RgData, 1, 0}, 80}, {mixed, thing{geo.RgData, 6, 3}, 103},
		{great, thing{geo.RgLease, 15, 0}, 16}, {great, thing{geo.RgPaxos, 15, 0}, 32}, {great, thing{geo.RgLog, 511, 0}, 544},
		{great, thing{geo.RgHead, 15, 0}, 1520}, {great, thing{geo.RgJournal, 15, 63}, 1584}, {great, thing{geo.RgData, 63, 7}, 2096},
		{least, thing{geo.RgLease, 0, 0}, 1}, {least, thing{geo.RgPaxos, 0, 0}, 2}, {least, thing{geo.RgLog, 7, 0}, 10},
		{least, thing{geo.RgHead, 0, 0}, 11}, {least, thing{geo.RgJournal, 0, 2}, 14}, {least, thing{geo.RgData, 0, 0}, 15},
	} {
		if got := sectorOf(x.g, x.what); got != x.want {
			t.Errorf("%+v: %v stands at %d, not %d", x.g, x.what, got, x.want)
		}
		if back := what(x.g, x.want); x.what.kind != geo.RgJournal && back != x.what {
			t.Errorf("%+v: at %d stands %v, not %v", x.g, x.want, back, x.what)
		}
	}
}

// besides are numbers that are none of so many from 0 on: those beside the ends, and such as wrap round to one of them in a product by each.
func besides(many, each int) []int {
	l := []int{-1, -2, -many, many, many + 1, 2 * many, 1 << 16, 1 << 32, 1<<32 + 1, -1 << 32}
	l = append(l, math.MaxInt, math.MaxInt-1, math.MinInt, math.MinInt+1)
	wrap := math.MaxInt/each + 1
	for _, n := range []int{wrap, 2 * wrap, 1 << 60, 1 << 61, 1 << 62, 1<<61 + 1, 1<<62 + 1, -1 << 61, -1 << 62} {
		if n < 0 || n >= many {
			l = append(l, n)
		}
	}
	return l
}

func standsNot(t *testing.T, g api.Geo, x thing) {
	t.Helper()
	if sector := sectorOf(g, x); sector != nowhere {
		t.Fatalf("%+v: %v stands at %d", g, x, sector)
	}
}

func TestNoSuchThingStandsNowhere(t *testing.T) {
	for _, g := range bases {
		for _, node := range besides(g.Nodes, 1) {
			standsNot(t, g, thing{geo.RgLease, node, 0})
			standsNot(t, g, thing{geo.RgPaxos, node, 0})
		}
		for _, i := range besides(g.Log, 1) {
			standsNot(t, g, thing{geo.RgLog, i, 0})
		}
		for _, slot := range besides(g.Slots, 1+g.Journal) {
			standsNot(t, g, thing{geo.RgHead, slot, 0})
			for _, lsn := range []int{0, 1, g.Journal, math.MaxInt, -1} {
				standsNot(t, g, thing{geo.RgJournal, slot, lsn})
			}
		}
		for _, block := range besides(g.Blocks, g.Per) {
			for _, k := range append(besides(g.Per, 1), 0, g.Per-1) {
				standsNot(t, g, thing{geo.RgData, block, k})
			}
		}
	}
}

func TestNoSuchSectorOfABlock(t *testing.T) {
	for _, g := range bases {
		for block := range g.Blocks {
			for _, k := range besides(g.Per, 1) {
				standsNot(t, g, thing{geo.RgData, block, k})
			}
		}
	}
}

// There may be fewer slots than nodes.
func TestSlotsAreCountedByThemselves(t *testing.T) {
	g := with(great, slots, 2)
	for slot := 2; slot < 20; slot++ {
		standsNot(t, g, thing{geo.RgHead, slot, 0})
		standsNot(t, g, thing{geo.RgJournal, slot, 0})
	}
	for node := range 16 {
		if geo.Lease(g, node) != 1+node || geo.Paxos(g, node) != 17+node {
			t.Error(node, geo.Lease(g, node), geo.Paxos(g, node))
		}
	}
}

func TestJournalGoesRound(t *testing.T) {
	for _, g := range bases {
		for slot := range g.Slots {
			first := 1 + 2*g.Nodes + g.Log + slot*(1+g.Journal) + 1
			for lsn := range 5*g.Journal + 3 {
				if got, want := geo.Journal(g, slot, lsn), first+lsn%g.Journal; got != want {
					t.Fatalf("%+v: slot %d at %d: %d, not %d", g, slot, lsn, got, want)
				}
			}
			for _, times := range []int{1, 2, 7, 1 << 20, 1 << 40, 1 << 50} {
				for off := range g.Journal {
					if got := geo.Journal(g, slot, times*g.Journal+off); got != first+off {
						t.Fatalf("%+v: slot %d at %d times and %d: %d", g, slot, times, off, got)
					}
				}
				if got := geo.Journal(g, slot, times*g.Journal-1); got != first+g.Journal-1 {
					t.Fatalf("%+v: slot %d ahead of %d times: %d", g, slot, times, got)
				}
			}
		}
	}
}

func TestJournalFarAboveItsLength(t *testing.T) {
	for _, g := range bases {
		first := geo.Head(g, g.Slots-1) + 1
		for _, lsn := range []int{api.MaxNumber, api.MaxNumber - 1, api.MaxNumber + 1, 1<<32 - 1, 1 << 32, math.MaxInt, math.MaxInt - 1, math.MaxInt - 63} {
			if got, want := geo.Journal(g, g.Slots-1, lsn), first+lsn%g.Journal; got != want {
				t.Errorf("%+v at %d: %d, not %d", g, lsn, got, want)
			}
		}
	}
}

func TestJournalBelowItsBeginning(t *testing.T) {
	for _, g := range bases {
		for slot := range g.Slots {
			for _, lsn := range []int{-1, -2, -g.Journal + 1, -g.Journal, -g.Journal - 1, -2 * g.Journal, -1 << 32, -1 << 40, math.MinInt, math.MinInt + 1} {
				standsNot(t, g, thing{geo.RgJournal, slot, lsn})
			}
		}
	}
}

// P4.3.

func TestWhatByHand(t *testing.T) {
	for sector, want := range []thing{
		{geo.RgSuper, 0, 0},
		{geo.RgLease, 0, 0}, {geo.RgLease, 1, 0},
		{geo.RgPaxos, 0, 0}, {geo.RgPaxos, 1, 0},
		{geo.RgLog, 0, 0}, {geo.RgLog, 1, 0}, {geo.RgLog, 2, 0}, {geo.RgLog, 3, 0}, {geo.RgLog, 4, 0}, {geo.RgLog, 5, 0}, {geo.RgLog, 6, 0}, {geo.RgLog, 7, 0},
		{geo.RgHead, 0, 0},
		{geo.RgJournal, 0, 0}, {geo.RgJournal, 0, 1}, {geo.RgJournal, 0, 2},
		{geo.RgData, 0, 0},
		{},
	} {
		if x := what(table, sector); x != want {
			t.Errorf("%d: %v, not %v", sector, x, want)
		}
	}
}

func TestWhatOfNoSector(t *testing.T) {
	for _, g := range geometries() {
		total := len(walk(g))
		for _, sector := range []int{-1, -2, -8, -total, total, total + 1, total + 2, total + 7, 2 * total, 1<<32 + 1, 1 << 32, -1 << 32, -1<<32 + 1, 1 << 62, math.MaxInt, math.MaxInt - 1, math.MinInt, math.MinInt + 1} {
			if x := what(g, sector); x != (thing{}) {
				t.Fatalf("%+v: What of %d is %v", g, sector, x)
			}
		}
	}
}

// P4.4.

func TestEachSectorIsJustOneThing(t *testing.T) {
	for _, g := range geometries() {
		l := walk(g)
		if geo.Total(g) != len(l) {
			t.Fatalf("%+v: %d, not %d", g, geo.Total(g), len(l))
		}
		for sector, want := range l {
			if x := what(g, sector); x != want {
				t.Fatalf("%+v: at %d stands %v, not %v", g, sector, x, want)
			}
		}
	}
}

func TestEachThingHasOneSector(t *testing.T) {
	for _, g := range geometries() {
		for sector, x := range walk(g) {
			if got := sectorOf(g, x); got != sector {
				t.Fatalf("%+v: %v stands at %d, not %d", g, x, got, sector)
			}
		}
	}
}

// What and the others are each other's way back; no two things share a sector, and none is left over.
func TestThingsAndSectorsAreOneToOne(t *testing.T) {
	for _, g := range geometries() {
		seen := make(map[int]thing)
		for _, x := range walk(g) {
			sector := sectorOf(g, x)
			if other, ok := seen[sector]; ok {
				t.Fatalf("%+v: at %d stand %v and %v", g, sector, x, other)
			}
			seen[sector] = x
			if back := what(g, sector); back != x {
				t.Fatalf("%+v: %v stands at %d, where %v is", g, x, sector, back)
			}
		}
		for sector := range geo.Total(g) {
			if _, ok := seen[sector]; !ok {
				t.Fatalf("%+v: nothing stands at %d", g, sector)
			}
		}
	}
}

func TestTwoLsnsHaveOneSectorOnlyARoundApart(t *testing.T) {
	for _, g := range bases {
		for one := range 3 * g.Journal {
			for other := range 3 * g.Journal {
				if same := geo.Journal(g, 0, one) == geo.Journal(g, 0, other); same != ((one-other)%g.Journal == 0) {
					t.Fatalf("%+v: %d and %d share a sector: %v", g, one, other, same)
				}
			}
		}
	}
}

// Where things stand does not hang on the lease or the wait.
func TestTicksMoveNothing(t *testing.T) {
	for _, g := range bases {
		for _, x := range [][2]int{{1, 2}, {1, 1 << 20}, {1<<20 - 1, 1 << 20}, {77, 99}} {
			h := with(with(g, lease, x[0]), wait, x[1])
			mayBe(t, h)
			for sector, x := range walk(g) {
				if what(h, sector) != x || sectorOf(h, x) != sector {
					t.Fatalf("%+v: %v stands at %d, %v there", h, x, sectorOf(h, x), what(h, sector))
				}
			}
		}
	}
}

// R3.

func TestEveryCallAnswersTheSameAgain(t *testing.T) {
	tell := func(g api.Geo) []int {
		kind, a, b := geo.What(g, 40)
		return []int{geo.Total(g), geo.Rest(g), geo.Lease(g, 0), geo.Paxos(g, 0), geo.Log(g, 3), geo.Head(g, 0), geo.Journal(g, 0, 99), geo.Data(g, 0, 0), int(kind), a, b, geo.Bytes("a", "bc")}
	}
	first := tell(mixed)
	for _, g := range append(geometries()[:99], api.Geo{}, with(mixed, nodes, 0)) {
		tell(g)
	}
	if again := tell(mixed); !slices.Equal(first, again) {
		t.Errorf("%v, not %v", again, first)
	}
}
