package choose_test

import (
	"math"
	"math/bits"
	"slices"
	"strings"
	"testing"

	"breakwater/api"
	"breakwater/choose"
)

// ints are at a type's ends, beside these, and such as a narrower type would take for another one.
var ints = []int{math.MinInt, math.MinInt + 1, -1 << 48, -1 << 40, -1<<32 - 1, -1 << 32, -65536, -257, -256, -17, -16, -2, -1, 0, 1, 2, 15, 16, 17, 18, 33, 34, 255, 256, 257, 511, 512, 513, 65535, 65536, 1<<31 - 1, 1 << 31, 1<<32 - 1, 1 << 32, 1<<32 + 17, api.MaxNumber - 1, api.MaxNumber, api.MaxNumber + 1, 1 << 48, 1 << 62, math.MaxInt - 1, math.MaxInt}

// vals are values, among them none, and one that is longer than a record may have.
var vals = []string{"", "\x00", "x", "y", "\xff\x00", strings.Repeat("z", 64), strings.Repeat("w", 600)}

// greater is told by a subtraction in more bits than an int has, not by what the program asks.
func greater(a, b int) bool {
	const turn = uint64(1) << 63
	_, borrow := bits.Sub64(uint64(b)^turn, uint64(a)^turn, 0)
	return borrow == 1
}

// counted is the chapter's words, one by one, of one record.
func counted(t api.Tally, r api.Rec) api.Tally {
	if greater(r.Mbal, t.Seen) {
		t.Seen = r.Mbal
	}
	switch {
	case greater(r.Inst, t.Inst):
		t.Ahead = true
	case greater(t.Inst, r.Inst):
	default:
		if greater(r.Mbal, t.Mbal) {
			t.Lost = true
		}
		if greater(r.Bal, t.Best) {
			t.Best, t.Val = r.Bal, r.Val
		}
	}
	return t
}

// valued is the value by the chapter's words.
func valued(t api.Tally, cmd string) string {
	if greater(t.Best, 0) {
		return t.Val
	}
	return cmd
}

// dice gives numbers that look thrown, the same ones every time.
type dice uint64

func (d *dice) to(n int) int {
	*d = *d*6364136223846793005 + 1442695040888963407
	return int(uint64(*d)>>33) % n
}

func pick[T any](d *dice, l []T) T { return l[d.to(len(l))] }

// near is a record of few numbers, so that many are alike; half of them have a value that hangs on the ballot alone.
func (d *dice) near() api.Rec {
	r := api.Rec{Inst: 3 + d.to(3), Mbal: 16 + d.to(6), Bal: d.to(8)}
	if r.Bal > 0 {
		r.Val = string([]byte{'a' + byte(r.Bal)})
	}
	return r
}

// far is a record of any numbers, such as no proposer writes.
func (d *dice) far() api.Rec {
	return api.Rec{Inst: pick(d, ints), Mbal: pick(d, ints), Bal: pick(d, ints), Val: pick(d, vals)}
}

func (d *dice) nearTally() api.Tally {
	t := choose.Begin(d.near(), 14+d.to(10))
	t.Ahead, t.Lost = d.to(8) == 0, d.to(8) == 0
	return t
}

func (d *dice) farTally() api.Tally {
	return api.Tally{Inst: pick(d, ints), Mbal: pick(d, ints), Best: pick(d, ints), Val: pick(d, vals), Seen: pick(d, ints), Ahead: d.to(2) == 0, Lost: d.to(2) == 0}
}

func row(n int, one func() api.Rec) []api.Rec {
	l := make([]api.Rec, n)
	for i := range l {
		l[i] = one()
	}
	return l
}

func tallyIs(t *testing.T, got, want api.Tally) {
	t.Helper()
	if got != want {
		t.Fatalf("%+v, not %+v", got, want)
	}
}

// P13.1, Begin.

func TestBeginByHand(t *testing.T) {
	with, without := api.Rec{Inst: 4, Mbal: 33, Bal: 17, Val: "v"}, api.Rec{Inst: 4, Mbal: 33}
	for i, x := range []struct {
		own  api.Rec
		seen int
		want api.Tally
	}{
		{with, 0, api.Tally{Inst: 4, Mbal: 33, Best: 17, Val: "v", Seen: 33}},
		{with, 32, api.Tally{Inst: 4, Mbal: 33, Best: 17, Val: "v", Seen: 33}},
		{with, 33, api.Tally{Inst: 4, Mbal: 33, Best: 17, Val: "v", Seen: 33}},
		{with, 34, api.Tally{Inst: 4, Mbal: 33, Best: 17, Val: "v", Seen: 34}},
		{with, -5, api.Tally{Inst: 4, Mbal: 33, Best: 17, Val: "v", Seen: 33}},
		{without, 0, api.Tally{Inst: 4, Mbal: 33, Seen: 33}},
		{without, 32, api.Tally{Inst: 4, Mbal: 33, Seen: 33}},
		{without, 33, api.Tally{Inst: 4, Mbal: 33, Seen: 33}},
		{without, 34, api.Tally{Inst: 4, Mbal: 33, Seen: 34}},
		{api.Rec{}, 0, api.Tally{}},
		{api.Rec{}, 7, api.Tally{Seen: 7}},
		{api.Rec{}, -7, api.Tally{}},
		{api.Rec{Inst: -3, Mbal: -9, Bal: -4, Val: "v"}, -10, api.Tally{Inst: -3, Mbal: -9, Best: -4, Val: "v", Seen: -9}},
		{api.Rec{Inst: 600, Mbal: 3, Bal: 9}, math.MinInt, api.Tally{Inst: 600, Mbal: 3, Best: 9, Seen: 3}},
		{api.Rec{Mbal: 3, Val: "of nothing"}, 0, api.Tally{Mbal: 3, Val: "of nothing", Seen: 3}},
	} {
		if got := choose.Begin(x.own, x.seen); got != x.want {
			t.Errorf("%d: %+v", i, got)
		}
	}
}

func TestBegin(t *testing.T) {
	for _, a := range ints {
		for _, b := range ints {
			for i, val := range vals {
				r := api.Rec{Inst: ints[i], Mbal: a, Bal: ints[len(ints)-1-i], Val: val}
				want := api.Tally{Inst: r.Inst, Mbal: a, Best: r.Bal, Val: val, Seen: a}
				if greater(b, a) {
					want.Seen = b
				}
				tallyIs(t, choose.Begin(r, b), want)
				r.Inst, r.Bal = b, a
				want.Inst, want.Best = b, a
				tallyIs(t, choose.Begin(r, b), want)
			}
		}
	}
}

// P13.1, Count.

// mine is a tally at inst 4 of the ballot 33, that has seen 40; what was accepted is of the ballot 17.
var mine = api.Tally{Inst: 4, Mbal: 33, Best: 17, Val: "v", Seen: 40}

func TestCountByHand(t *testing.T) {
	for i, x := range []struct {
		r    api.Rec
		want api.Tally
	}{
		{api.Rec{Inst: 5, Mbal: 16}, api.Tally{Inst: 4, Mbal: 33, Best: 17, Val: "v", Seen: 40, Ahead: true}},
		{api.Rec{Inst: 5, Mbal: 40}, api.Tally{Inst: 4, Mbal: 33, Best: 17, Val: "v", Seen: 40, Ahead: true}},
		{api.Rec{Inst: 5, Mbal: 41}, api.Tally{Inst: 4, Mbal: 33, Best: 17, Val: "v", Seen: 41, Ahead: true}},
		{api.Rec{Inst: 5, Mbal: 50, Bal: 50, Val: "x"}, api.Tally{Inst: 4, Mbal: 33, Best: 17, Val: "v", Seen: 50, Ahead: true}},
		{api.Rec{Inst: 512, Mbal: 50, Bal: 50, Val: "x"}, api.Tally{Inst: 4, Mbal: 33, Best: 17, Val: "v", Seen: 50, Ahead: true}},
		{api.Rec{Inst: 3, Mbal: 16}, mine},
		{api.Rec{Inst: 3, Mbal: 40, Bal: 40, Val: "x"}, mine},
		{api.Rec{Inst: 3, Mbal: 41, Bal: 41, Val: "x"}, api.Tally{Inst: 4, Mbal: 33, Best: 17, Val: "v", Seen: 41}},
		{api.Rec{Mbal: 99, Bal: 99, Val: "x"}, api.Tally{Inst: 4, Mbal: 33, Best: 17, Val: "v", Seen: 99}},
		{api.Rec{}, mine},
		{api.Rec{Inst: 4}, mine},
		{api.Rec{Inst: 4, Mbal: 32}, mine},
		{api.Rec{Inst: 4, Mbal: 33}, mine},
		{api.Rec{Inst: 4, Mbal: 34}, api.Tally{Inst: 4, Mbal: 33, Best: 17, Val: "v", Seen: 40, Lost: true}},
		{api.Rec{Inst: 4, Mbal: 40}, api.Tally{Inst: 4, Mbal: 33, Best: 17, Val: "v", Seen: 40, Lost: true}},
		{api.Rec{Inst: 4, Mbal: 41}, api.Tally{Inst: 4, Mbal: 33, Best: 17, Val: "v", Seen: 41, Lost: true}},
		{api.Rec{Inst: 4, Mbal: 20, Bal: 16, Val: "x"}, mine},
		{api.Rec{Inst: 4, Mbal: 20, Bal: 17, Val: "x"}, mine},
		{api.Rec{Inst: 4, Mbal: 20, Bal: 18, Val: "x"}, api.Tally{Inst: 4, Mbal: 33, Best: 18, Val: "x", Seen: 40}},
		{api.Rec{Inst: 4, Mbal: 33, Bal: 33, Val: "x"}, api.Tally{Inst: 4, Mbal: 33, Best: 33, Val: "x", Seen: 40}},
		{api.Rec{Inst: 4, Mbal: 34, Bal: 18, Val: "x"}, api.Tally{Inst: 4, Mbal: 33, Best: 18, Val: "x", Seen: 40, Lost: true}},
		{api.Rec{Inst: 4, Mbal: 50, Bal: 50, Val: "x"}, api.Tally{Inst: 4, Mbal: 33, Best: 50, Val: "x", Seen: 50, Lost: true}},
		{api.Rec{Inst: 4, Mbal: 50, Bal: 16, Val: "x"}, api.Tally{Inst: 4, Mbal: 33, Best: 17, Val: "v", Seen: 50, Lost: true}},
		{api.Rec{Inst: 4, Bal: 18}, api.Tally{Inst: 4, Mbal: 33, Best: 18, Seen: 40}},
		{api.Rec{Inst: 4, Mbal: -1, Bal: -1, Val: "x"}, mine},
	} {
		if got := choose.Count(mine, x.r); got != x.want {
			t.Errorf("%d: %+v", i, got)
		}
	}
}

// Behind no record at all the tally is what it was, whatever that is.
func TestCountOfNone(t *testing.T) {
	var d dice
	for range 500 {
		for _, x := range []api.Tally{d.farTally(), d.nearTally(), {}} {
			tallyIs(t, choose.Count(x), x)
			tallyIs(t, choose.Count(x, nil...), x)
			tallyIs(t, choose.Count(x, []api.Rec{}...), x)
		}
	}
}

// What a tally has told already stays, whatever else is counted.
func TestAheadAndLostStay(t *testing.T) {
	ahead, lost := api.Rec{Inst: 5, Mbal: 16}, api.Rec{Inst: 4, Mbal: 34}
	for _, l := range [][]api.Rec{{ahead, lost}, {lost, ahead}, {ahead, {Inst: 4}, lost, {Inst: 3}}, {lost, lost, ahead, ahead, {}}} {
		tallyIs(t, choose.Count(mine, l...), api.Tally{Inst: 4, Mbal: 33, Best: 17, Val: "v", Seen: 40, Ahead: true, Lost: true})
	}
	for _, r := range []api.Rec{{}, {Inst: 3}, {Inst: 4}, {Inst: 4, Mbal: 33}} {
		tallyIs(t, choose.Count(mine, ahead, r), api.Tally{Inst: 4, Mbal: 33, Best: 17, Val: "v", Seen: 40, Ahead: true})
		tallyIs(t, choose.Count(mine, lost, r), api.Tally{Inst: 4, Mbal: 33, Best: 17, Val: "v", Seen: 40, Lost: true})
	}
}

// Where it is not ahead, and where it has lost, it goes on counting what was accepted here.
func TestCountGoesOn(t *testing.T) {
	got := choose.Count(mine, api.Rec{Inst: 5, Mbal: 50, Bal: 50, Val: "far"}, api.Rec{Inst: 4, Mbal: 60, Bal: 19, Val: "x"}, api.Rec{Inst: 3, Mbal: 70, Bal: 70, Val: "past"}, api.Rec{Inst: 4, Mbal: 20, Bal: 20, Val: "y"}, api.Rec{Inst: 4, Mbal: 20, Bal: 18, Val: "z"})
	tallyIs(t, got, api.Tally{Inst: 4, Mbal: 33, Best: 20, Val: "y", Seen: 70, Ahead: true, Lost: true})
}

// Each number of a record at, below and above the tally's, with each other one.
func TestCountOfOne(t *testing.T) {
	var d dice
	for range 300 {
		x := d.nearTally()
		for di := -1; di <= 1; di++ {
			for dm := -2; dm <= 2; dm++ {
				for db := -2; db <= 2; db++ {
					r := api.Rec{Inst: x.Inst + di, Mbal: x.Mbal + dm, Bal: x.Best + db, Val: "new"}
					tallyIs(t, choose.Count(x, r), counted(x, r))
					r.Mbal = x.Seen + dm
					tallyIs(t, choose.Count(x, r), counted(x, r))
				}
			}
		}
	}
}

func TestCountFarOut(t *testing.T) {
	for _, a := range ints {
		for _, b := range ints {
			x := api.Tally{Inst: a, Mbal: a, Best: a, Val: "v", Seen: a}
			for _, r := range []api.Rec{{Inst: b, Mbal: b, Bal: b, Val: "x"}, {Inst: a, Mbal: b, Bal: b, Val: "x"}, {Inst: a, Mbal: a, Bal: b, Val: "x"}, {Inst: a, Mbal: b, Bal: a, Val: "x"}, {Inst: b, Mbal: a, Bal: b, Val: "x"}} {
				tallyIs(t, choose.Count(x, r), counted(x, r))
			}
		}
	}
}

func TestCountOfMany(t *testing.T) {
	var d dice
	for i := range 6000 {
		x, l := d.nearTally(), row(d.to(20), d.near)
		if i%2 == 0 {
			x, l = d.farTally(), row(d.to(20), d.far)
		}
		want := x
		for _, r := range l {
			want = counted(want, r)
		}
		tallyIs(t, choose.Count(x, l...), want)
	}
}

func TestCountOfALongRow(t *testing.T) {
	l := slices.Repeat([]api.Rec{{Inst: 4, Mbal: 16}, {Inst: 3, Mbal: 20}}, 100000)
	for _, at := range []int{0, 1, 99999, len(l) - 1} {
		was := l[at]
		l[at] = api.Rec{Inst: 4, Mbal: 34, Bal: 18, Val: "x"}
		tallyIs(t, choose.Count(mine, l...), api.Tally{Inst: 4, Mbal: 33, Best: 18, Val: "x", Seen: 40, Lost: true})
		l[at] = api.Rec{Inst: 5, Mbal: 77}
		tallyIs(t, choose.Count(mine, l...), api.Tally{Inst: 4, Mbal: 33, Best: 17, Val: "v", Seen: 77, Ahead: true})
		l[at] = was
	}
	tallyIs(t, choose.Count(mine, l...), mine)
}

// P13.1, Stops.

func TestStops(t *testing.T) {
	var d dice
	for range 300 {
		for _, x := range []api.Tally{{}, mine, d.nearTally(), d.farTally()} {
			for i := range 4 {
				x.Ahead, x.Lost = i&1 > 0, i&2 > 0
				if choose.Stops(x) != (i > 0) {
					t.Fatalf("%+v", x)
				}
			}
		}
	}
}

// The chapter's examples.
func TestExamples(t *testing.T) {
	b := choose.Begin(api.Rec{Inst: 4, Mbal: 33}, 0)
	if x := choose.Count(b, api.Rec{Inst: 5, Mbal: 17}); !x.Ahead || x.Lost || !choose.Stops(x) || choose.Value(x, "mine") != "mine" {
		t.Errorf("%+v", x)
	}
	if x := choose.Count(b, api.Rec{Inst: 4, Mbal: 17, Bal: 17, Val: "x"}); x.Ahead || x.Lost || choose.Stops(x) || choose.Value(x, "mine") != "x" {
		t.Errorf("%+v", x)
	}
}

// P13.2, Value.

func TestValueByHand(t *testing.T) {
	for i, x := range []struct {
		t         api.Tally
		cmd, want string
	}{
		{api.Tally{}, "cmd", "cmd"}, {api.Tally{}, "", ""}, {api.Tally{Val: "v"}, "cmd", "cmd"}, {api.Tally{Val: "v"}, "", ""}, {api.Tally{Best: -1, Val: "v"}, "cmd", "cmd"}, {api.Tally{Best: math.MinInt, Val: "v"}, "cmd", "cmd"},
		{api.Tally{Best: 1, Val: "v"}, "cmd", "v"}, {api.Tally{Best: 17, Val: "v"}, "", "v"}, {api.Tally{Best: math.MaxInt, Val: "v"}, "cmd", "v"}, {api.Tally{Best: 1}, "cmd", ""},
		{api.Tally{Inst: 4, Mbal: 33, Seen: 40, Ahead: true, Lost: true}, "cmd", "cmd"}, {api.Tally{Mbal: 33, Best: 17, Val: "v", Ahead: true, Lost: true}, "cmd", "v"},
		{api.Tally{Best: 17, Val: "\x00\xff"}, "cmd", "\x00\xff"}, {api.Tally{}, "\x00\xff", "\x00\xff"},
	} {
		if got := choose.Value(x.t, x.cmd); got != x.want {
			t.Errorf("%d: %q", i, got)
		}
	}
}

func TestValue(t *testing.T) {
	var d dice
	for range 3000 {
		for _, x := range []api.Tally{d.nearTally(), d.farTally()} {
			if cmd := pick(&d, vals); choose.Value(x, cmd) != valued(x, cmd) {
				t.Fatalf("%+v, %q", x, cmd)
			}
		}
	}
}

// P13.2, Others.

// walked is the answer by the chapter's words: number for number.
func walked(nodes, node, i int) int {
	for n := range max(nodes, 0) {
		if n >= i && n != node {
			return n
		}
	}
	return nodes
}

func othersIs(t *testing.T, nodes, node, i, want int) {
	t.Helper()
	if n := choose.Others(api.Geo{Nodes: nodes}, node, i); n != want {
		t.Fatalf("%d nodes, node %d, at %d: %d, not %d", nodes, node, i, n, want)
	}
}

func TestOthersByHand(t *testing.T) {
	for _, x := range []struct{ nodes, node, i, want int }{
		{3, 0, 0, 1}, {3, 0, 1, 1}, {3, 0, 2, 2}, {3, 0, 3, 3}, {3, 1, 0, 0}, {3, 1, 1, 2}, {3, 1, 2, 2}, {3, 2, 1, 1}, {3, 2, 2, 3}, {3, 2, 3, 3}, {3, 2, 4, 3},
		{3, 0, -1, 1}, {3, 1, -1, 0}, {3, -1, -1, 0}, {3, -1, 0, 0}, {3, -1, 2, 2}, {3, -1, 3, 3}, {3, 3, 0, 0}, {3, 3, 2, 2}, {3, 3, 3, 3}, {3, 9, 2, 2}, {3, -5, -5, 0},
		{1, 0, 0, 1}, {1, 0, -1, 1}, {1, 1, 0, 0}, {1, -1, 0, 0}, {1, 0, 1, 1}, {0, 0, 0, 0}, {0, 0, -1, 0}, {0, 3, 9, 0}, {-1, 0, 0, -1}, {-3, 0, -5, -3}, {-3, -2, -2, -3}, {-3, -4, 9, -3},
		{16, 15, 15, 16}, {16, 14, 14, 15}, {16, 0, 0, 1}, {17, 16, 16, 17}, {40, 3, 30, 30},
	} {
		othersIs(t, x.nodes, x.node, x.i, x.want)
	}
}

func TestOthers(t *testing.T) {
	for nodes := -4; nodes <= 20; nodes++ {
		for node := -4; node <= 24; node++ {
			for i := -4; i <= 24; i++ {
				othersIs(t, nodes, node, i, walked(nodes, node, i))
			}
		}
	}
}

// One call behind the other they are all the others, each once, rising.
func TestOthersOneByOne(t *testing.T) {
	for nodes := 1; nodes <= 16; nodes++ {
		g := api.Geo{Nodes: nodes}
		for node := range nodes {
			var l, want []int
			for n := choose.Others(g, node, 0); n < nodes; n = choose.Others(g, node, n+1) {
				l = append(l, n)
			}
			for n := range nodes {
				if n != node {
					want = append(want, n)
				}
			}
			if !slices.Equal(l, want) {
				t.Fatal(nodes, node, l)
			}
		}
	}
}

// Only Nodes of a geometry counts.
func TestOthersOfAnyGeometry(t *testing.T) {
	for _, n := range ints {
		g := api.Geo{Nodes: 3, Slots: n, Blocks: n, Per: n, Journal: n, Log: n, Lease: n, Wait: n}
		if choose.Others(g, 1, 0) != 0 || choose.Others(g, 1, 1) != 2 || choose.Others(g, 2, 2) != 3 {
			t.Fatal(n)
		}
	}
}

func TestOthersFarOut(t *testing.T) {
	for _, nodes := range ints {
		for _, node := range ints {
			for _, i := range append(slices.Clone(ints), node, nodes) {
				want := nodes
				if n := max(i, 0); n < nodes && n != node {
					want = n
				} else if n < nodes && n+1 < nodes {
					want = n + 1
				}
				othersIs(t, nodes, node, i, want)
			}
		}
	}
}

// P13.3.

// orders are all orders of few records.
func orders(l []api.Rec) [][]api.Rec {
	if len(l) == 0 {
		return [][]api.Rec{nil}
	}
	var all [][]api.Rec
	for i := range l {
		for _, rest := range orders(slices.Concat(l[:i], l[i+1:])) {
			all = append(all, append([]api.Rec{l[i]}, rest...))
		}
	}
	return all
}

// One Bal has one value here, the tally's own included: so all of it comes out alike.
func TestEachOrder(t *testing.T) {
	var d dice
	for range 300 {
		own, l := d.near(), row(d.to(6), d.near)
		b := choose.Begin(own, 14+d.to(10))
		want := choose.Count(b, l...)
		for _, o := range orders(l) {
			tallyIs(t, choose.Count(b, o...), want)
		}
		greatest, best := b.Seen, b.Best
		for _, r := range l {
			greatest = max(greatest, r.Mbal)
			if r.Inst == own.Inst {
				best = max(best, r.Bal)
			}
		}
		if want.Seen != greatest || want.Best != best {
			t.Fatalf("%+v of %+v", want, l)
		}
	}
}

// Of any records at all Val alone hangs on the order.
func TestEachOrderOfAny(t *testing.T) {
	var d dice
	for range 200 {
		x, l := d.farTally(), row(d.to(5), d.far)
		want := choose.Count(x, l...)
		for _, o := range orders(l) {
			got := choose.Count(x, o...)
			got.Val = want.Val
			tallyIs(t, got, want)
		}
	}
}

// Of two of one Bal the first one's value counts; the tally's own goes ahead of both.
func TestOneBalTwoValues(t *testing.T) {
	x, y := api.Rec{Inst: 4, Mbal: 20, Bal: 18, Val: "x"}, api.Rec{Inst: 4, Mbal: 21, Bal: 18, Val: "y"}
	if a, b := choose.Count(mine, x, y), choose.Count(mine, y, x); a.Val != "x" || b.Val != "y" || a.Best != 18 || b.Best != 18 {
		t.Error(a, b)
	}
	own := mine
	own.Best = 18
	tallyIs(t, choose.Count(own, x, y), own)
	tallyIs(t, choose.Count(own, y, x), own)
}

func TestCountedTwice(t *testing.T) {
	var d dice
	for i := range 2000 {
		x, l := d.nearTally(), row(d.to(9), d.near)
		if i%2 == 0 {
			x, l = d.farTally(), row(d.to(9), d.far)
		}
		want := choose.Count(x, l...)
		tallyIs(t, choose.Count(x, append(slices.Clone(l), l...)...), want)
		tallyIs(t, choose.Count(want, l...), want)
	}
}

func TestCountedInTwoParts(t *testing.T) {
	var d dice
	for i := range 1000 {
		x, l := d.nearTally(), row(d.to(9), d.near)
		if i%2 == 0 {
			x, l = d.farTally(), row(d.to(9), d.far)
		}
		want := choose.Count(x, l...)
		for at := range len(l) + 1 {
			tallyIs(t, choose.Count(choose.Count(x, l[:at]...), l[at:]...), want)
		}
		for _, r := range l {
			x = choose.Count(x, r)
		}
		tallyIs(t, x, want)
	}
}

// second is a proposer's second record: what it goes on with, at its own ballot.
func second(own api.Rec, cmd string, l ...api.Rec) api.Rec {
	x := choose.Count(choose.Begin(own, 0), l...)
	return api.Rec{Inst: own.Inst, Mbal: own.Mbal, Bal: own.Mbal, Val: choose.Value(x, cmd)}
}

// Whoever has the lesser ballot has lost, once it has counted the other one's second record: only the other one may go on.
func TestSecondRecordsOfTwo(t *testing.T) {
	for a := 16; a < 60; a++ {
		for b := 16; b < 60; b++ {
			if a == b {
				continue // ballots of unlike nodes are unlike
			}
			one, two := api.Rec{Inst: 4, Mbal: a}, api.Rec{Inst: 4, Mbal: b}
			x, y := second(one, "x"), second(two, "y")
			p, q := choose.Count(choose.Begin(x, 0), y), choose.Count(choose.Begin(y, 0), x)
			if choose.Stops(p) != (a < b) || choose.Stops(q) != (b < a) {
				t.Fatal(a, b, p, q)
			}
		}
	}
}

// Whoever counts another one's second record ahead of its own goes on with that one's value: so if both go on, the values are alike.
func TestSecondBehindSecond(t *testing.T) {
	for a := 16; a < 40; a++ {
		for b := 16; b < 40; b++ {
			x := second(api.Rec{Inst: 4, Mbal: a}, "x")
			y := second(api.Rec{Inst: 4, Mbal: b}, "y", x)
			q := choose.Count(choose.Begin(y, 0), x)
			if y.Val != "x" || choose.Stops(q) != (a > b) || !choose.Stops(q) && choose.Value(q, "y") != "x" {
				t.Fatal(a, b, y, q)
			}
		}
	}
}

// R3 and R4.

func TestNothingKept(t *testing.T) {
	var d dice
	own, l := api.Rec{Inst: 4, Mbal: 33, Bal: 17, Val: "v"}, []api.Rec{{Inst: 4, Mbal: 34, Bal: 18, Val: "x"}, {Inst: 5, Mbal: 50}}
	ask := func() []any {
		x := choose.Begin(own, 3)
		y := choose.Count(x, l...)
		return []any{x, y, choose.Stops(x), choose.Stops(y), choose.Value(x, "cmd"), choose.Value(y, "cmd"), choose.Others(api.Geo{Nodes: 3}, 1, 1)}
	}
	was := ask()
	for range 200 {
		x := choose.Count(d.farTally(), row(5, d.far)...)
		choose.Begin(d.far(), pick(&d, ints))
		choose.Stops(x)
		choose.Value(x, "other")
		choose.Others(api.Geo{Nodes: pick(&d, ints)}, pick(&d, ints), pick(&d, ints))
	}
	if !slices.Equal(ask(), was) {
		t.Error(ask(), was)
	}
}

func TestHandedInUnchanged(t *testing.T) {
	var d dice
	for range 200 {
		room, x := row(12, d.near), d.nearTally()
		was, wasX := slices.Clone(room), x
		for n := range len(room) + 1 {
			tallyIs(t, choose.Count(x, room[:n]...), choose.Count(x, slices.Clone(was[:n])...))
		}
		if !slices.Equal(room, was) || x != wasX {
			t.Fatal(room, x)
		}
	}
}
