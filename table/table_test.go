package table_test

import (
	"math"
	"math/rand"
	"slices"
	"testing"

	"breakwater/api"
	"breakwater/table"
)

// The kinds as the chapter's order numbers them, and the modes.
const (
	mount int8 = iota
	leave
	ask
	free
	claim
	purge
)

const (
	shared int8 = 1
	own    int8 = 2
)

// far are numbers at the ends of the ints, at the limits, and such as a narrower type would take for others.
var far = []int{math.MinInt, math.MinInt + 1, -1 << 62, -1 << 32, -1 << 31, -257, -256, -17, -16, -2, -1, 0, 1, 2, 15, 16, 17, 33, 63, 64, 65, 255, 256, 1<<31 - 1, 1 << 31, 1 << 32, 1<<32 + 16, api.MaxNumber, api.MaxNumber + 1, 1 << 62, math.MaxInt - 1, math.MaxInt}

// geo is of that many slots and blocks: nothing else of a geometry counts here.
func geo(slots, blocks int) api.Geo { return api.Geo{Slots: slots, Blocks: blocks} }

func span(lo, hi int) api.Span { return api.Span{Lo: lo, Hi: hi} }

func hold(key, lo, hi int, mode int8) api.Hold {
	return api.Hold{Key: key, Span: span(lo, hi), Mode: mode}
}

// slots are those of the keys, without a claim.
func slots(keys ...int) []api.Slot {
	var l []api.Slot
	for _, key := range keys {
		l = append(l, api.Slot{Key: key})
	}
	return l
}

func list(l ...api.Hold) []api.Hold { return l }

// ones are n holds of one block each, from the first on.
func ones(key, first, n int, mode int8) []api.Hold {
	var l []api.Hold
	for block := first; block < first+n; block++ {
		l = append(l, hold(key, block, block, mode))
	}
	return l
}

func mountBy(key int) api.Cmd { return api.Cmd{Kind: mount, By: key} }

func leaveBy(key int) api.Cmd { return api.Cmd{Kind: leave, By: key} }

func askBy(key, lo, hi int, mode int8) api.Cmd {
	return api.Cmd{Kind: ask, By: key, Span: span(lo, hi), Mode: mode}
}

func freeBy(key, lo, hi int) api.Cmd { return api.Cmd{Kind: free, By: key, Span: span(lo, hi)} }

func claimBy(key, dead, was int) api.Cmd {
	return api.Cmd{Kind: claim, By: key, Dead: dead, Was: was}
}

func purgeBy(key, dead int) api.Cmd { return api.Cmd{Kind: purge, By: key, Dead: dead} }

// clone shares nothing with the table.
func clone(t api.Table) api.Table {
	return api.Table{Slots: append([]api.Slot{}, t.Slots...), Holds: append([]api.Hold{}, t.Holds...), Queue: append([]api.Hold{}, t.Queue...)}
}

func same(a, b api.Table) bool {
	return slices.Equal(a.Slots, b.Slots) && slices.Equal(a.Holds, b.Holds) && slices.Equal(a.Queue, b.Queue)
}

// The models are the chapter's words, one by one.

// overlap goes by the ends: where two spans have blocks in common, one of the four ends is such a block.
func overlap(a, b api.Span) bool {
	for _, block := range []int{a.Lo, a.Hi, b.Lo, b.Hi} {
		if a.Lo <= block && block <= a.Hi && b.Lo <= block && block <= b.Hi {
			return true
		}
	}
	return false
}

func together(a, b api.Hold) bool {
	return a.Key == b.Key || !overlap(a.Span, b.Span) || a.Mode == shared && b.Mode == shared
}

// unlike are how many of the list h does not go together with.
func unlike(h api.Hold, l []api.Hold) int {
	n := 0
	for _, x := range l {
		if !together(h, x) {
			n++
		}
	}
	return n
}

// slotOf is -1 of what is no member.
func slotOf(t api.Table, key int) int {
	if key < 1 {
		return -1
	}
	for i := range t.Slots {
		if t.Slots[i].Key == key {
			return i
		}
	}
	return -1
}

func mayHold(g api.Geo, h api.Hold) bool {
	return h.Key >= 1 && maySpan(g, h.Span) && (h.Mode == shared || h.Mode == own)
}

func maySpan(g api.Geo, s api.Span) bool { return s.Lo >= 0 && s.Hi >= s.Lo && s.Hi < g.Blocks }

// granted marks each of the queue that is granted, and then tells both lists anew.
func granted(t api.Table) api.Table {
	t = clone(t)
	is := make([]bool, len(t.Queue))
	for i, h := range t.Queue {
		hinder := unlike(h, t.Holds)
		for _, ahead := range t.Queue[:i] { // those that were granted meanwhile hinder as holds, the others as those that stay
			hinder += unlike(h, []api.Hold{ahead})
		}
		is[i] = hinder == 0
	}
	var stay []api.Hold
	for i, h := range t.Queue {
		if is[i] {
			t.Holds = append(t.Holds, h)
		} else {
			stay = append(stay, h)
		}
	}
	t.Queue = stay
	return t
}

func lessKey(t api.Table, key int) api.Table {
	t.Slots[slotOf(t, key)] = api.Slot{}
	mine := func(h api.Hold) bool { return h.Key == key }
	t.Holds, t.Queue = slices.DeleteFunc(t.Holds, mine), slices.DeleteFunc(t.Queue, mine)
	return granted(t)
}

func asked(g api.Geo, t api.Table, h api.Hold) api.Table {
	if slotOf(t, h.Key) < 0 || !maySpan(g, h.Span) || h.Mode != shared && h.Mode != own {
		return t
	}
	n := 0
	for _, x := range slices.Concat(t.Holds, t.Queue) {
		if x.Key == h.Key {
			n++
			if overlap(x.Span, h.Span) {
				return t
			}
		}
	}
	if n >= 64 {
		return t
	}
	t.Queue = append(t.Queue, h)
	return granted(t)
}

func freed(t api.Table, key int, s api.Span) api.Table {
	just := func(h api.Hold) bool { return h.Key == key && h.Span == s }
	if slices.ContainsFunc(t.Holds, just) {
		t.Holds = slices.DeleteFunc(t.Holds, just)
	} else {
		t.Queue = slices.DeleteFunc(t.Queue, just)
	}
	return granted(t)
}

func applied(g api.Geo, was api.Table, c api.Cmd) api.Table {
	t := clone(was)
	switch c.Kind {
	case mount:
		for i := range t.Slots {
			if t.Slots[i].Key == 0 && slotOf(t, c.By) < 0 {
				t.Slots[i].Key = c.By
				break
			}
		}
	case leave:
		if slotOf(t, c.By) >= 0 {
			return lessKey(t, c.By)
		}
	case ask:
		return asked(g, t, api.Hold{Key: c.By, Span: c.Span, Mode: c.Mode})
	case free:
		return freed(t, c.By, c.Span)
	case claim:
		if i := slotOf(t, c.Dead); i >= 0 && c.By != c.Dead && t.Slots[i].Claim == c.Was {
			t.Slots[i].Claim = c.By
		}
	case purge:
		if i := slotOf(t, c.Dead); i >= 0 && c.By != 0 && t.Slots[i].Claim == c.By {
			return lessKey(t, c.Dead)
		}
	}
	return t
}

func slotsMay(g api.Geo, t api.Table) bool {
	if len(t.Slots) != g.Slots {
		return false
	}
	for i, s := range t.Slots {
		if s.Key == 0 && s.Claim != 0 || s.Key >= 1 && slotOf(t, s.Key) != i {
			return false
		}
	}
	return true
}

func may(g api.Geo, t api.Table) bool {
	if !slotsMay(g, t) {
		return false
	}
	all := slices.Concat(t.Holds, t.Queue)
	for i, h := range all {
		n := 0
		for j, x := range all {
			if x.Key == h.Key {
				n++
				if i != j && overlap(x.Span, h.Span) {
					return false
				}
			}
		}
		if n > 64 || !mayHold(g, h) || slotOf(t, h.Key) < 0 {
			return false
		}
	}
	for _, h := range t.Holds {
		if unlike(h, t.Holds) > 0 {
			return false
		}
	}
	return len(granted(t).Queue) == len(t.Queue)
}

// P11.1, New.

func TestNew(t *testing.T) {
	for _, x := range []struct{ slots, want int }{{0, 0}, {1, 1}, {2, 2}, {15, 15}, {16, 16}, {17, 16}, {18, 16}, {64, 16}, {-1, 0}, {-16, 0}, {1 << 32, 16}, {1<<32 + 1, 16}, {-1 << 32, 0}, {math.MaxInt, 16}, {math.MinInt, 0}} {
		for _, blocks := range []int{-1, 0, 1, 64, math.MaxInt} {
			o := table.New(geo(x.slots, blocks))
			if len(o.Slots) != x.want || len(o.Holds) != 0 || len(o.Queue) != 0 {
				t.Fatalf("%d slots: %+v", x.slots, o)
			}
			for _, s := range o.Slots {
				if s != (api.Slot{}) {
					t.Fatalf("%d slots: %+v", x.slots, o)
				}
			}
		}
	}
}

// Nothing but the slots of a geometry counts, whether it may be or not.
func TestNewOfWholeGeometries(t *testing.T) {
	for slots := range 17 {
		g := api.Geo{Nodes: -7, Slots: slots, Blocks: 8, Per: 99, Journal: 3, Log: -1, Lease: 5, Wait: 2}
		if o := table.New(g); !same(o, table.New(geo(slots, 0))) || !table.May(g, o) {
			t.Fatal(slots, o)
		}
	}
}

// P11.1, May.

// good are tables that may be, of a geometry of three slots and of that many blocks.
func good() []struct {
	blocks int
	t      api.Table
} {
	three := slots(16, 17, 18)
	return []struct {
		blocks int
		t      api.Table
	}{
		{0, api.Table{Slots: slots(0, 0, 0)}},
		{4, api.Table{Slots: slots(0, 0, 0)}},
		{4, api.Table{Slots: slots(0, 16, 0)}},
		{4, api.Table{Slots: slots(3, 1, 2)}},
		{4, api.Table{Slots: []api.Slot{{Key: 16, Claim: 17}, {Key: 17, Claim: 17}, {}}}},
		{4, api.Table{Slots: []api.Slot{{Key: 16, Claim: 16}, {Key: 17, Claim: 99}, {Key: 18, Claim: -1}}}},
		{4, api.Table{Slots: three, Holds: list(hold(16, 0, 3, own))}},
		{4, api.Table{Slots: three, Holds: list(hold(16, 0, 1, own), hold(16, 2, 3, shared), hold(17, 3, 3, shared))}},
		{4, api.Table{Slots: three, Holds: list(hold(16, 0, 3, shared), hold(17, 0, 3, shared), hold(18, 1, 2, shared))}},
		{4, api.Table{Slots: three, Holds: list(hold(16, 0, 3, shared)), Queue: list(hold(17, 3, 3, own))}},
		{4, api.Table{Slots: three, Holds: list(hold(16, 0, 3, own)), Queue: list(hold(17, 0, 1, own), hold(18, 1, 1, shared))}},
		{4, api.Table{Slots: three, Holds: list(hold(16, 0, 1, shared)), Queue: list(hold(17, 1, 2, own), hold(18, 2, 3, shared))}}, // 18 waits for 17 alone
		{4, api.Table{Slots: three, Holds: list(hold(16, 0, 0, own), hold(17, 2, 3, own)), Queue: list(hold(17, 0, 1, shared), hold(18, 0, 0, shared), hold(16, 3, 3, own))}},
		{64, api.Table{Slots: three, Holds: slices.Concat(ones(16, 0, 64, shared), ones(17, 0, 64, shared))}},
		{64, api.Table{Slots: three, Holds: list(hold(16, 0, 63, own)), Queue: ones(17, 0, 64, shared)}},
		{100, api.Table{Slots: three, Holds: slices.Concat(ones(16, 10, 64, own), ones(17, 74, 20, own))}},
		{100, api.Table{Slots: three, Holds: slices.Concat(ones(16, 0, 32, own), list(hold(17, 50, 99, own))), Queue: ones(16, 60, 32, shared)}},
	}
}

func TestMayOfGood(t *testing.T) {
	for i, x := range good() {
		if g := geo(3, x.blocks); !table.May(g, x.t) || !may(g, x.t) {
			t.Errorf("%d: %+v", i, x.t)
		}
	}
}

func TestMayNot(t *testing.T) {
	three := slots(16, 17, 18)
	first := hold(16, 0, 1, shared)
	for i, x := range []struct {
		blocks int
		t      api.Table
	}{
		{4, api.Table{}}, {4, api.Table{Slots: slots(16, 17)}}, {4, api.Table{Slots: slots(16, 17, 18, 0)}}, {4, api.Table{Slots: slots(0, 0, 0, 0)}}, // too few or too many slots
		{4, api.Table{Slots: slots(16, 16, 0)}}, {4, api.Table{Slots: slots(16, 0, 16)}}, {4, api.Table{Slots: slots(0, 16, 16)}}, {4, api.Table{Slots: slots(16, 16, 16)}}, // a key twice
		{4, api.Table{Slots: []api.Slot{{Key: 16, Claim: 17}, {Key: 17}, {Key: 16, Claim: 18}}}},
		{4, api.Table{Slots: []api.Slot{{Claim: 16}, {Key: 16}, {}}}}, {4, api.Table{Slots: []api.Slot{{Key: 16}, {}, {Claim: 16}}}}, {4, api.Table{Slots: []api.Slot{{Key: 16}, {Claim: -1}, {}}}}, // a claim without a key
		{4, api.Table{Slots: slots(16, 0, 18), Holds: list(hold(17, 0, 1, shared))}}, {4, api.Table{Slots: slots(0, 0, 0), Holds: list(first)}}, // of no member
		{4, api.Table{Slots: slots(16, 0, 18), Holds: list(hold(16, 0, 1, own)), Queue: list(hold(17, 0, 1, own))}},
		{4, api.Table{Slots: slots(16, 0, 18), Holds: list(hold(0, 0, 1, shared))}}, {4, api.Table{Slots: slots(16, -17, 18), Holds: list(hold(-17, 0, 1, shared))}},
		{4, api.Table{Slots: three, Holds: list(hold(16, -1, 1, shared))}}, {4, api.Table{Slots: three, Holds: list(hold(16, 2, 1, shared))}}, {4, api.Table{Slots: three, Holds: list(hold(16, 0, 4, shared))}}, {1, api.Table{Slots: three, Holds: list(first)}}, // such as may not be
		{4, api.Table{Slots: three, Holds: list(hold(16, 0, 1, 0))}}, {4, api.Table{Slots: three, Holds: list(hold(16, 0, 1, 3))}}, {4, api.Table{Slots: three, Holds: list(hold(16, 0, 1, -1))}},
		{4, api.Table{Slots: three, Holds: list(hold(16, 0, 3, own)), Queue: list(hold(17, 0, 4, own))}}, {4, api.Table{Slots: three, Holds: list(hold(16, 0, 3, own)), Queue: list(hold(17, -1, 0, own))}}, {4, api.Table{Slots: three, Holds: list(hold(16, 0, 3, own)), Queue: list(hold(17, 0, 1, 3))}},
		{4, api.Table{Slots: three, Holds: list(first, hold(16, 1, 2, shared))}}, {4, api.Table{Slots: three, Holds: list(first, hold(17, 3, 3, own), first)}}, {4, api.Table{Slots: three, Holds: list(hold(16, 0, 3, own), hold(16, 1, 1, shared))}}, // two of one key that overlap
		{4, api.Table{Slots: three, Holds: list(hold(17, 0, 1, shared), hold(16, 1, 1, shared)), Queue: list(hold(16, 1, 2, own))}},
		{4, api.Table{Slots: three, Holds: list(hold(17, 0, 3, own)), Queue: list(hold(16, 0, 2, own), hold(16, 2, 3, own))}},
		{4, api.Table{Slots: three, Holds: list(hold(16, 0, 1, shared), hold(17, 1, 2, own))}}, {4, api.Table{Slots: three, Holds: list(hold(16, 0, 1, own), hold(17, 1, 2, shared))}}, {4, api.Table{Slots: three, Holds: list(hold(16, 0, 0, own), hold(18, 2, 3, own), hold(17, 3, 3, own))}}, // that do not go together
		{100, api.Table{Slots: three, Holds: ones(16, 0, 65, own)}}, {100, api.Table{Slots: three, Holds: list(hold(17, 0, 99, own)), Queue: ones(16, 0, 65, own)}}, // too many of a key
		{100, api.Table{Slots: three, Holds: slices.Concat(ones(16, 0, 32, own), list(hold(17, 50, 99, own))), Queue: ones(16, 60, 33, shared)}},
		{100, api.Table{Slots: three, Holds: slices.Concat(ones(16, 0, 64, own), list(hold(17, 90, 90, own))), Queue: ones(16, 90, 1, shared)}},
		{4, api.Table{Slots: three, Queue: list(first)}}, {4, api.Table{Slots: three, Holds: list(hold(16, 0, 1, own)), Queue: list(hold(17, 2, 2, own))}}, {4, api.Table{Slots: three, Holds: list(first), Queue: list(hold(17, 1, 1, shared))}}, // that could be granted
		{4, api.Table{Slots: three, Holds: list(hold(16, 0, 1, own)), Queue: list(hold(17, 0, 1, own), hold(18, 2, 3, own))}}, {4, api.Table{Slots: three, Holds: list(hold(16, 0, 3, shared)), Queue: list(hold(17, 0, 0, own), hold(18, 1, 3, shared))}},
	} {
		if g := geo(3, x.blocks); table.May(g, x.t) || may(g, x.t) {
			t.Errorf("%d: %+v", i, x.t)
		}
	}
}

// Of each number of slots: as many, and no others.
func TestMayOfEachNumberOfSlots(t *testing.T) {
	for _, n := range append([]int{3, 4, 14, 18, 20}, far...) {
		for have := range 20 {
			if table.May(geo(n, 1), api.Table{Slots: make([]api.Slot, have)}) != (have == n) {
				t.Fatal(n, have)
			}
		}
	}
}

// A good table with any one number turned.
func TestMayOfOneNumberTurned(t *testing.T) {
	yes, no := 0, 0
	judge := func(g api.Geo, x api.Table) {
		t.Helper()
		want := may(g, x)
		if table.May(g, x) != want {
			t.Fatalf("%+v: not %v", x, want)
		}
		if want {
			yes++
		} else {
			no++
		}
	}
	for _, x := range good() {
		if len(x.t.Holds)+len(x.t.Queue) > 8 {
			continue
		}
		g := geo(3, x.blocks)
		for _, n := range append([]int{3, 18, 19}, far...) {
			for i := range x.t.Slots {
				o := clone(x.t)
				o.Slots[i].Key = n
				judge(g, o)
				o = clone(x.t)
				o.Slots[i].Claim = n
				judge(g, o)
			}
			for i := range len(x.t.Holds) + len(x.t.Queue) {
				for field := range 4 {
					o := clone(x.t)
					turn(parts(o)[i], field, n)
					judge(g, o)
				}
			}
		}
	}
	if yes < 100 || no < 1000 {
		t.Error(yes, no)
	}
}

// parts are the table's own holds and queued ones.
func parts(t api.Table) []*api.Hold {
	var l []*api.Hold
	for i := range t.Holds {
		l = append(l, &t.Holds[i])
	}
	for i := range t.Queue {
		l = append(l, &t.Queue[i])
	}
	return l
}

func turn(h *api.Hold, field, n int) {
	switch field {
	case 0:
		h.Key = n
	case 1:
		h.Span.Lo = n
	case 2:
		h.Span.Hi = n
	case 3:
		h.Mode = int8(n)
	}
}

// Long lists are refused soon, wherever what may not be stands.
func TestMayOfLongLists(t *testing.T) {
	long := slices.Repeat(ones(16, 0, 64, shared), 20000)
	last := slices.Concat(ones(16, 0, 64, shared), ones(17, 0, 64, shared), ones(18, 0, 64, shared))
	for i, x := range []api.Table{
		{Slots: slots(16, 17, 18), Holds: long}, {Slots: slots(16, 17, 18), Queue: long}, {Slots: make([]api.Slot, 1<<20)},
		{Slots: slots(16, 17, 18), Holds: append(last, hold(18, 3, 3, shared))}, {Slots: slots(16, 17, 18), Holds: append(last, hold(19, 3, 3, shared))},
	} {
		if table.May(geo(3, 64), x) {
			t.Error(i)
		}
	}
}

// P11.1, Slot.

func slotIs(t *testing.T, x api.Table, key, want int) {
	t.Helper()
	if i, ok := table.Slot(x, key); ok != (want >= 0) || i != max(want, 0) {
		t.Fatalf("key %d of %+v: %d, %v", key, x.Slots, i, ok)
	}
}

func TestSlot(t *testing.T) {
	x := api.Table{Slots: []api.Slot{{Key: 33}, {}, {Key: 16, Claim: 17}, {Key: 1}, {Key: -5}, {Key: api.MaxNumber}, {Key: math.MaxInt, Claim: 16}}}
	for _, c := range []struct{ key, want int }{{33, 0}, {16, 2}, {1, 3}, {api.MaxNumber, 5}, {math.MaxInt, 6}, {0, -1}, {-5, -1}, {-1, -1}, {17, -1}, {32, -1}, {2, -1}, {33 + 1<<32, -1}, {-33, -1}, {math.MinInt, -1}} {
		slotIs(t, x, c.key, c.want)
	}
	for _, key := range far {
		slotIs(t, api.Table{}, key, -1)
		slotIs(t, table.New(geo(16, 4)), key, -1)
		slotIs(t, api.Table{Slots: []api.Slot{{Claim: key}}, Holds: list(hold(key, 0, 0, own)), Queue: list(hold(key, 0, 0, own))}, key, -1) // a claim, a hold is no slot
		want := -1
		if key >= 1 {
			want = 1
		}
		slotIs(t, api.Table{Slots: []api.Slot{{}, {Key: key}, {}, {Key: key}}}, key, want) // the first
	}
}

func TestSlotOfEach(t *testing.T) {
	for n := range 17 {
		var x api.Table
		for i := range n {
			x.Slots = append(x.Slots, api.Slot{Key: 16 + i*7, Claim: 17})
		}
		for i := range n {
			slotIs(t, x, 16+i*7, i)
			slotIs(t, x, 17+i*7, -1)
		}
	}
}

// P11.1, Grant.

func grantIs(t *testing.T, x, want api.Table) {
	t.Helper()
	if o := table.Grant(x); !same(o, want) {
		t.Fatalf("%+v: %+v, not %+v", x, o, want)
	}
	if o := granted(x); !same(o, want) {
		t.Fatalf("%+v: the model has %+v, not %+v", x, o, want)
	}
	if o := table.Grant(want); !same(o, want) { // once is enough
		t.Fatalf("%+v, once more: %+v", want, o)
	}
}

func TestGrantByHand(t *testing.T) {
	in := []api.Slot{{Key: 16, Claim: 17}, {Key: 17}, {}}
	a, b, c := hold(16, 0, 1, own), hold(17, 1, 2, own), hold(18, 2, 3, own)
	read := []api.Hold{hold(16, 0, 3, shared), hold(17, 1, 1, shared), hold(18, 1, 3, shared)}
	for _, x := range []struct{ holds, queue, wantHolds, wantQueue []api.Hold }{
		{nil, nil, nil, nil},
		{list(a), nil, list(a), nil},
		{nil, list(a), list(a), nil},
		{nil, list(c, a), list(c, a), nil},                                             // behind the others, in the queue's order
		{list(c), list(a), list(c, a), nil},                                            // several at once
		{nil, list(a, b), list(a), list(b)},                                            // who was granted hinders
		{nil, list(a, b, c), list(a), list(b, c)},                                      // who waits hinders, too
		{list(a), list(b, c), list(a), list(b, c)},                                     // 18 waits for 17 alone
		{list(a), list(c, b), list(a, c), list(b)},                                     // the other way about it does not
		{list(b), list(a, c), list(b), list(a, c)},                                     // both wait for the hold
		{list(a), list(b, hold(18, 3, 3, own)), list(a, hold(18, 3, 3, own)), list(b)}, // behind another that waits
		{nil, read, read, nil},
		{read[:1], read[1:], read, nil},
		{read[:1], list(hold(17, 1, 1, own), read[2]), read[:1], list(hold(17, 1, 1, own), read[2])}, // readers do not pass a writer
		{read[:1], list(hold(17, 1, 1, own), hold(18, 2, 3, shared)), list(read[0], hold(18, 2, 3, shared)), list(hold(17, 1, 1, own))},
		{list(a), list(hold(16, 0, 1, own), b, hold(16, 1, 1, shared)), list(a, hold(16, 0, 1, own)), list(b, hold(16, 1, 1, shared))}, // one's own never hinder
		{list(a), list(a, a), list(a, a, a), nil},
		{nil, list(hold(0, 5, 2, 9), hold(-1, math.MinInt, math.MaxInt, 0), hold(-2, 0, 0, -1), hold(-2, 1, 0, 2)), list(hold(0, 5, 2, 9), hold(-1, math.MinInt, math.MaxInt, 0), hold(-2, 1, 0, 2)), list(hold(-2, 0, 0, -1))},
	} {
		grantIs(t, api.Table{Slots: in, Holds: x.holds, Queue: x.queue}, api.Table{Slots: in, Holds: x.wantHolds, Queue: x.wantQueue})
	}
}

// P11.1, Demands.

func demandsAre(t *testing.T, x api.Table, key int, want ...api.Hold) {
	t.Helper()
	if o := table.Demands(x, key); !slices.Equal(o, want) {
		t.Fatalf("of %d in %+v: %+v, not %+v", key, x, o, want)
	}
}

func TestDemandsByHand(t *testing.T) {
	w17, r18, w18, w16 := hold(17, 0, 3, own), hold(18, 0, 0, shared), hold(18, 3, 3, own), hold(16, 3, 3, own)
	x := api.Table{Slots: slots(16, 17, 18), Holds: list(hold(16, 0, 1, shared), hold(19, 2, 2, own), hold(16, 2, 2, own), hold(18, 1, 1, shared)), Queue: list(w17, r18, w18, w16)}
	demandsAre(t, x, 16, w17) // 18 reads what 16 reads
	demandsAre(t, x, 18, w17)
	demandsAre(t, x, 19, w17)
	demandsAre(t, x, 17) // it waits, but has none
	demandsAre(t, x, 20)
	demandsAre(t, x, 0)
	x.Holds = list(hold(16, 0, 0, own), hold(17, 3, 3, shared), hold(16, 1, 1, own))
	demandsAre(t, x, 16, w17, r18) // once, though it overlaps two
	demandsAre(t, x, 17, w18, w16) // one's own are no demands
	demandsAre(t, x, 18)
	x.Queue = list(w18, r18, w16, w17, r18)
	demandsAre(t, x, 16, r18, w17, r18) // in the queue's order
	demandsAre(t, x, 17, w18, w16)
	demandsAre(t, api.Table{Queue: x.Queue}, 16)
	demandsAre(t, api.Table{Holds: x.Holds}, 16)
	demandsAre(t, api.Table{}, 16)
}

// P11.1, Same.

func TestSame(t *testing.T) {
	x := api.Table{Slots: []api.Slot{{Key: 16, Claim: 17}, {}}, Holds: list(hold(16, 0, 1, own), hold(17, 2, 3, shared)), Queue: list(hold(17, 0, 0, shared), hold(18, 1, 1, own))}
	l := []api.Table{x, {}, {Slots: x.Slots}, {Holds: x.Holds}, {Queue: x.Holds}, {Slots: x.Slots, Holds: x.Holds}, {Slots: x.Slots, Holds: x.Queue, Queue: x.Holds}, {Slots: x.Slots[:1], Holds: x.Holds, Queue: x.Queue}, {Slots: x.Slots, Holds: x.Holds[:1], Queue: x.Queue}, {Slots: x.Slots, Holds: x.Holds, Queue: x.Queue[1:]}}
	for _, change := range []func(*api.Table){
		func(o *api.Table) { o.Slots[0].Key = 17 }, func(o *api.Table) { o.Slots[0].Claim = 16 }, func(o *api.Table) { o.Slots[1].Key = 18 }, func(o *api.Table) { o.Slots[1].Claim = 1 },
		func(o *api.Table) { slices.Reverse(o.Slots) }, func(o *api.Table) { slices.Reverse(o.Holds) }, func(o *api.Table) { slices.Reverse(o.Queue) },
		func(o *api.Table) { o.Slots = append(o.Slots, api.Slot{}) }, func(o *api.Table) { o.Holds = append(o.Holds, api.Hold{}) }, func(o *api.Table) { o.Queue = append(o.Queue, api.Hold{}) },
	} {
		o := clone(x)
		change(&o)
		l = append(l, o)
	}
	for i := range parts(x) {
		for field := range 4 {
			o := clone(x)
			turn(parts(o)[i], field, 7)
			l = append(l, o)
		}
	}
	for i, a := range l {
		for j, b := range l {
			if table.Same(a, clone(b)) != (i == j) {
				t.Errorf("%+v, %+v", a, b)
			}
		}
	}
	if !table.Same(api.Table{}, api.Table{Slots: []api.Slot{}, Holds: []api.Hold{}, Queue: []api.Hold{}}) || !table.Same(api.Table{Slots: []api.Slot{}}, api.Table{Queue: []api.Hold{}}) { // nil and empty mean the same
		t.Error("empty")
	}
}

// P11.2.

func applyIs(t *testing.T, g api.Geo, x api.Table, c api.Cmd, want api.Table) {
	t.Helper()
	if o := table.Apply(g, x, c); !same(o, want) {
		t.Fatalf("%+v behind %+v: %+v, not %+v", x, c, o, want)
	}
	if o := applied(g, x, c); !same(o, want) {
		t.Fatalf("%+v behind %+v: the model has %+v, not %+v", x, c, o, want)
	}
}

// noEffect asks that the table is as it is behind each of these.
func noEffect(t *testing.T, g api.Geo, x api.Table, l ...api.Cmd) {
	t.Helper()
	for _, c := range l {
		applyIs(t, g, x, c, x)
	}
}

func TestExample(t *testing.T) {
	x := api.Table{Slots: slots(1, 2, 3), Holds: list(hold(1, 0, 3, own)), Queue: list(hold(2, 0, 1, own), hold(3, 1, 1, shared))}
	applyIs(t, geo(3, 4), x, freeBy(1, 0, 3), api.Table{Slots: slots(1, 2, 3), Holds: list(hold(2, 0, 1, own)), Queue: list(hold(3, 1, 1, shared))})
}

func TestMount(t *testing.T) {
	g := geo(3, 4)
	x := api.Table{Slots: slots(0, 17, 0), Holds: list(hold(17, 0, 1, own))}
	one := api.Table{Slots: slots(16, 17, 0), Holds: x.Holds}
	two := api.Table{Slots: slots(16, 17, 33), Holds: x.Holds}
	applyIs(t, g, x, mountBy(16), one)
	applyIs(t, g, one, mountBy(33), two)
	applyIs(t, g, table.New(g), mountBy(api.MaxNumber), api.Table{Slots: slots(api.MaxNumber, 0, 0)})
	noEffect(t, g, x, mountBy(17), mountBy(0)) // a member; 0 has no slot
	noEffect(t, g, one, mountBy(16), mountBy(17))
	noEffect(t, g, two, mountBy(16), mountBy(17), mountBy(33), mountBy(18), mountBy(0), mountBy(-1)) // none is free
	noEffect(t, g, api.Table{}, mountBy(16))
	claimed := api.Table{Slots: []api.Slot{{Key: 17}, {Claim: 18}, {}}}
	applyIs(t, g, claimed, mountBy(16), api.Table{Slots: []api.Slot{{Key: 17}, {Key: 16, Claim: 18}, {}}}) // its claim stays
	below := api.Table{Slots: slots(-16, 0, 0)}
	applyIs(t, g, below, mountBy(16), api.Table{Slots: slots(-16, 16, 0)}) // what is not 0 is not free
	applyIs(t, g, below, mountBy(-16), api.Table{Slots: slots(-16, -16, 0)})
	for _, other := range []api.Geo{{}, geo(1, 0), geo(-1, -1), geo(99, 99)} { // the table's slots count, not the geometry's
		applyIs(t, other, x, mountBy(16), one)
	}
	applyIs(t, g, api.Table{Slots: slots(0), Queue: list(hold(16, 0, 0, own))}, mountBy(16), api.Table{Slots: slots(16), Queue: list(hold(16, 0, 0, own))}) // it grants nothing
}

func TestLeave(t *testing.T) {
	g := geo(3, 4)
	x := api.Table{Slots: []api.Slot{{Key: 16, Claim: 18}, {Key: 17, Claim: 16}, {Key: 18}}, Holds: list(hold(16, 0, 0, own), hold(17, 2, 2, shared), hold(16, 1, 1, own)), Queue: list(hold(17, 0, 1, own), hold(16, 2, 3, own), hold(18, 3, 3, shared), hold(18, 1, 1, own))}
	applyIs(t, g, x, leaveBy(16), api.Table{Slots: []api.Slot{{}, {Key: 17, Claim: 16}, {Key: 18}}, Holds: list(hold(17, 2, 2, shared), hold(17, 0, 1, own), hold(18, 3, 3, shared)), Queue: list(hold(18, 1, 1, own))})
	applyIs(t, g, x, leaveBy(17), api.Table{Slots: []api.Slot{{Key: 16, Claim: 18}, {}, {Key: 18}}, Holds: list(hold(16, 0, 0, own), hold(16, 1, 1, own), hold(16, 2, 3, own)), Queue: list(hold(18, 3, 3, shared), hold(18, 1, 1, own))})
	applyIs(t, g, x, leaveBy(18), api.Table{Slots: []api.Slot{{Key: 16, Claim: 18}, {Key: 17, Claim: 16}, {}}, Holds: x.Holds, Queue: x.Queue[:2]})
	noEffect(t, g, x, leaveBy(19), leaveBy(0), leaveBy(-16), leaveBy(1), leaveBy(16+1<<32))
	noEffect(t, g, api.Table{Slots: []api.Slot{{Claim: 5}, {Key: -5}}, Holds: list(hold(0, 0, 0, own), hold(-5, 1, 1, own), hold(16, 2, 2, own)), Queue: list(hold(16, 3, 3, own))}, leaveBy(0), leaveBy(-5), leaveBy(16)) // no members, so that nothing is granted
	applyIs(t, g, api.Table{Slots: slots(16, 17, 16), Holds: list(hold(16, 0, 0, own))}, leaveBy(16), api.Table{Slots: slots(0, 17, 16)})                                                                                  // its slot is the one that Slot tells
}

func TestAsk(t *testing.T) {
	g := geo(3, 4)
	in := slots(16, 17, 18)
	x := api.Table{Slots: in, Holds: list(hold(16, 0, 1, own)), Queue: list(hold(17, 1, 2, shared))}
	applyIs(t, g, x, askBy(18, 3, 3, own), api.Table{Slots: in, Holds: append(x.Holds[:1:1], hold(18, 3, 3, own)), Queue: x.Queue})
	applyIs(t, g, x, askBy(18, 2, 3, shared), api.Table{Slots: in, Holds: append(x.Holds[:1:1], hold(18, 2, 3, shared)), Queue: x.Queue})
	applyIs(t, g, x, askBy(18, 2, 3, own), api.Table{Slots: in, Holds: x.Holds, Queue: append(x.Queue[:1:1], hold(18, 2, 3, own))}) // 17, which waits, is ahead of it
	applyIs(t, g, x, askBy(18, 0, 0, shared), api.Table{Slots: in, Holds: x.Holds, Queue: append(x.Queue[:1:1], hold(18, 0, 0, shared))})
	applyIs(t, g, x, askBy(16, 3, 3, shared), api.Table{Slots: in, Holds: append(x.Holds[:1:1], hold(16, 3, 3, shared)), Queue: x.Queue})
	applyIs(t, g, x, askBy(17, 0, 0, own), api.Table{Slots: in, Holds: x.Holds, Queue: append(x.Queue[:1:1], hold(17, 0, 0, own))})
	noEffect(t, g, x, askBy(16, 0, 0, shared), askBy(16, 1, 1, own), askBy(16, 1, 3, own), askBy(16, 0, 1, own), askBy(17, 2, 3, shared), askBy(17, 0, 1, own), askBy(17, 1, 2, shared)) // it touches what it has or waits for
	noEffect(t, g, x, askBy(19, 3, 3, own), askBy(0, 3, 3, own), askBy(-16, 3, 3, own), askBy(-18, 3, 3, shared))                                                                        // no members
	for _, s := range []api.Span{span(-1, 0), span(-1, -1), span(3, 2), span(1, 0), span(3, 4), span(4, 4), span(0, 4), span(0, math.MaxInt), span(math.MinInt, 3), span(1<<32, 1<<32), span(3, 3-1<<32)} {
		noEffect(t, g, x, askBy(18, s.Lo, s.Hi, shared), askBy(18, s.Lo, s.Hi, own))
	}
	for _, mode := range []int8{0, 3, 4, 127, -1, -2, -126, -127, -128} {
		noEffect(t, g, x, askBy(18, 3, 3, mode))
	}
	none := api.Table{Slots: slots(-16, 0), Queue: list(hold(17, 0, 0, own))}
	noEffect(t, g, none, askBy(-16, 1, 1, own), askBy(0, 1, 1, own), askBy(17, 1, 1, own))
}

// The geometry's blocks count, its slots do not.
func TestAskOfEachGeometry(t *testing.T) {
	x := api.Table{Slots: slots(16)}
	for _, blocks := range append([]int{3, 4, 5}, far...) {
		for _, n := range []int{-1, 0, 1, 16, math.MaxInt} {
			for _, block := range []int{0, 1, 3, 4, 62, 63, 64, 255, 1 << 31, math.MaxInt - 1, math.MaxInt} {
				want := x
				if block < blocks {
					want.Holds = list(hold(16, block, block, own))
				}
				applyIs(t, geo(n, blocks), x, askBy(16, block, block, own), want)
			}
		}
	}
}

// With 63 of both one more is taken, with 64 none is.
func TestAskWithMaxHolds(t *testing.T) {
	g := geo(2, 200)
	for _, held := range []int{0, 1, 31, 63, 64} {
		for _, both := range []int{62, 63, 64, 65} {
			if both < held {
				continue
			}
			x := api.Table{Slots: slots(16, 17), Holds: append(ones(16, 0, held, own), hold(17, 100, 199, own)), Queue: ones(16, 100, both-held, shared)}
			last := hold(16, 199, 199, own)
			want := clone(x)
			if both < 64 {
				want.Queue = append(want.Queue, last)
			}
			applyIs(t, g, x, askBy(16, 199, 199, own), want)
			next := hold(16, 99, 99, shared)
			want = clone(x)
			if both < 64 {
				want.Holds = append(want.Holds, next)
			}
			applyIs(t, g, x, askBy(16, 99, 99, shared), want)
			want = clone(x)
			want.Queue = append(want.Queue, hold(17, 0, 0, own)) // others' do not count
			if held == 0 {
				want = clone(x)
				want.Holds = append(want.Holds, hold(17, 0, 0, own))
			}
			applyIs(t, g, x, askBy(17, 0, 0, own), want)
		}
	}
	if api.MaxHolds != 64 {
		t.Error(api.MaxHolds)
	}
}

func TestFree(t *testing.T) {
	g := geo(3, 4)
	in := slots(16, 17, 18)
	x := api.Table{Slots: in, Holds: list(hold(16, 0, 1, own), hold(16, 3, 3, own), hold(17, 2, 2, shared)), Queue: list(hold(17, 0, 1, shared), hold(18, 0, 0, own), hold(18, 2, 3, shared))}
	applyIs(t, g, x, freeBy(16, 0, 1), api.Table{Slots: in, Holds: list(hold(16, 3, 3, own), hold(17, 2, 2, shared), hold(17, 0, 1, shared)), Queue: x.Queue[1:]})
	applyIs(t, g, x, freeBy(16, 3, 3), api.Table{Slots: in, Holds: list(hold(16, 0, 1, own), hold(17, 2, 2, shared), hold(18, 2, 3, shared)), Queue: x.Queue[:2]})
	applyIs(t, g, x, freeBy(17, 2, 2), api.Table{Slots: in, Holds: x.Holds[:2], Queue: x.Queue})
	applyIs(t, g, x, freeBy(17, 0, 1), api.Table{Slots: in, Holds: x.Holds, Queue: x.Queue[1:]}) // a queued one
	applyIs(t, g, x, freeBy(18, 0, 0), api.Table{Slots: in, Holds: x.Holds, Queue: list(x.Queue[0], x.Queue[2])})
	noEffect(t, g, x, freeBy(16, 0, 0), freeBy(16, 1, 1), freeBy(16, 0, 2), freeBy(16, 0, 3), freeBy(16, 1, 0), freeBy(17, 1, 1), freeBy(18, 0, 1), freeBy(18, 2, 2), freeBy(18, 0, 3)) // of neither: an overlap is not enough
	noEffect(t, g, x, freeBy(19, 0, 1), freeBy(0, 0, 1), freeBy(-16, 0, 1), freeBy(17, 3, 3), freeBy(18, 3, 3), freeBy(16, -1, 1), freeBy(16, 0, 1+1<<32), freeBy(16, math.MinInt, math.MaxInt))
}

// A hold goes first; a queued one of the same span stays then. The mode is not asked.
func TestFreeOfAnyTable(t *testing.T) {
	g := geo(1, 0)
	w := hold(17, 5, 2, own)
	x := api.Table{Holds: list(hold(17, 0, 9, own), hold(16, 3, 3, own), hold(16, 3, 3, shared), hold(16, 3, 4, own)), Queue: list(hold(16, 3, 3, 9), hold(16, 9, 9, own), hold(16, 3, 3, own))}
	applyIs(t, g, x, freeBy(16, 3, 3), api.Table{Holds: list(x.Holds[0], x.Holds[3]), Queue: x.Queue}) // both of its holds: none of that span is left
	applyIs(t, g, x, api.Cmd{Kind: free, By: 16, Span: span(9, 9), Mode: shared}, api.Table{Holds: x.Holds, Queue: list(x.Queue[0], x.Queue[2])})
	applyIs(t, g, api.Table{Holds: list(w, hold(-5, 0, 0, 7))}, freeBy(17, 5, 2), api.Table{Holds: list(hold(-5, 0, 0, 7))}) // nothing is asked of the span
	applyIs(t, g, api.Table{Holds: list(w, hold(-5, 0, 0, 7))}, freeBy(-5, 0, 0), api.Table{Holds: list(w)})                 // nor of the key
	applyIs(t, g, api.Table{Queue: list(w, hold(16, 0, 0, own))}, freeBy(17, 5, 2), api.Table{Holds: list(hold(16, 0, 0, own))})
	applyIs(t, g, api.Table{Queue: list(hold(16, 0, 0, own))}, freeBy(17, 5, 2), api.Table{Holds: list(hold(16, 0, 0, own))}) // granting, though nothing is gone
}

func TestClaim(t *testing.T) {
	g := geo(3, 4)
	x := api.Table{Slots: []api.Slot{{Key: 16}, {Key: 17, Claim: 18}, {}}, Holds: list(hold(16, 0, 1, own)), Queue: list(hold(17, 1, 1, own))}
	with := func(slot, claim int) api.Table {
		o := clone(x)
		o.Slots[slot].Claim = claim
		return o
	}
	applyIs(t, g, x, claimBy(17, 16, 0), with(0, 17))
	applyIs(t, g, x, claimBy(16, 17, 18), with(1, 16))
	applyIs(t, g, x, claimBy(18, 17, 18), with(1, 18))
	applyIs(t, g, x, claimBy(99, 16, 0), with(0, 99)) // nothing is asked of By
	applyIs(t, g, x, claimBy(-7, 16, 0), with(0, -7))
	applyIs(t, g, x, claimBy(0, 17, 18), with(1, 0))
	noEffect(t, g, x, claimBy(17, 16, 18), claimBy(17, 16, 17), claimBy(17, 16, -1), claimBy(16, 17, 0), claimBy(16, 17, 17), claimBy(16, 17, 18+1<<32)) // Was is not its claim
	noEffect(t, g, x, claimBy(16, 16, 0), claimBy(17, 17, 18))                                                                                           // one's own slot
	noEffect(t, g, x, claimBy(16, 18, 0), claimBy(16, 0, 0), claimBy(16, -16, 0), claimBy(18, 1, 0), claimBy(16, 33, 0))                                 // no slot
	noEffect(t, g, api.Table{Slots: []api.Slot{{Claim: 3}, {Key: -4, Claim: 5}}, Queue: x.Queue}, claimBy(16, 0, 3), claimBy(16, -4, 5))
	applyIs(t, g, api.Table{Slots: slots(16), Queue: x.Queue}, claimBy(17, 16, 0), api.Table{Slots: []api.Slot{{Key: 16, Claim: 17}}, Queue: x.Queue}) // it grants nothing
}

func TestPurge(t *testing.T) {
	g := geo(3, 4)
	x := api.Table{Slots: []api.Slot{{Key: 16, Claim: 17}, {Key: 17}, {Key: 18, Claim: 18}}, Holds: list(hold(16, 0, 0, own), hold(18, 2, 2, shared), hold(16, 1, 1, own)), Queue: list(hold(17, 0, 1, own), hold(16, 2, 3, own), hold(17, 2, 2, own), hold(18, 1, 1, own))}
	gone := api.Table{Slots: []api.Slot{{}, {Key: 17}, {Key: 18, Claim: 18}}, Holds: list(hold(18, 2, 2, shared), hold(17, 0, 1, own)), Queue: list(hold(17, 2, 2, own), hold(18, 1, 1, own))}
	applyIs(t, g, x, purgeBy(17, 16), gone)
	applyIs(t, g, x, leaveBy(16), gone)
	applyIs(t, g, x, purgeBy(18, 18), applied(g, x, leaveBy(18)))                                                // one's own, if the claim is so
	noEffect(t, g, x, purgeBy(18, 16), purgeBy(16, 16), purgeBy(0, 16), purgeBy(-17, 16), purgeBy(17+1<<32, 16)) // by another than the claim
	noEffect(t, g, x, purgeBy(0, 17), purgeBy(16, 17), purgeBy(17, 17))                                          // where the claim is 0
	noEffect(t, g, x, purgeBy(17, 19), purgeBy(17, 0), purgeBy(17, -16), purgeBy(0, 0), purgeBy(16, 17))
	odd := api.Table{Slots: []api.Slot{{Claim: 17}, {Key: -5, Claim: 17}, {Key: 16, Claim: -2}, {Key: 33, Claim: 99}}, Holds: list(hold(0, 0, 0, own), hold(-5, 1, 1, own)), Queue: list(hold(33, 3, 3, own))}
	noEffect(t, g, odd, purgeBy(17, 0), purgeBy(17, -5))
	applyIs(t, g, odd, purgeBy(-2, 16), applied(g, odd, leaveBy(16))) // nothing is asked of By
	applyIs(t, g, odd, purgeBy(99, 33), applied(g, odd, leaveBy(33)))
}

// Of a kind that is none nothing comes, not even granting; what a kind does not name is not asked.
func TestKinds(t *testing.T) {
	g := geo(3, 4)
	x := api.Table{Slots: []api.Slot{{Key: 16, Claim: 17}, {Key: 17, Claim: 16}, {}}, Holds: list(hold(16, 0, 1, own)), Queue: list(hold(17, 0, 0, own), hold(17, 3, 3, own))}
	for kind := math.MinInt8; kind <= math.MaxInt8; kind++ {
		if mount <= int8(kind) && int8(kind) <= purge {
			continue
		}
		for _, c := range []api.Cmd{{}, {By: 16}, {By: 33, Serial: 1}, {By: 16, Span: span(0, 1)}, {By: 16, Span: span(2, 2), Mode: own}, {By: 16, Dead: 17, Was: 16}, {By: 17, Dead: 16, Was: 17, Serial: 9}} {
			c.Kind = int8(kind)
			noEffect(t, g, x, c)
		}
	}
	for _, c := range []api.Cmd{mountBy(18), leaveBy(16), askBy(16, 2, 2, own), freeBy(16, 0, 1), claimBy(18, 16, 17), purgeBy(17, 16)} {
		want := applied(g, x, c)
		if same(want, x) {
			t.Errorf("%+v has no effect", c)
		}
		for _, n := range far {
			o := c
			o.Serial = n
			applyIs(t, g, x, o, want)
			if c.Kind != claim {
				o.Was = n
				applyIs(t, g, x, o, want)
			}
			if c.Kind != claim && c.Kind != purge {
				o.Dead = n
				applyIs(t, g, x, o, want)
			}
			if c.Kind != ask {
				o.Mode = int8(n)
				applyIs(t, g, x, o, want)
			}
			if c.Kind != ask && c.Kind != free {
				o.Span = span(n, -n)
				applyIs(t, g, x, o, want)
			}
		}
	}
}

// Any table and any command at all.

var (
	someKeys  = []int{16, 17, 18, 16, 17, 18, 1, 0, -1, -16, math.MinInt, math.MaxInt}
	someEnds  = []int{0, 1, 2, 3, 0, 1, 2, 3, 4, -1, 63, 64, math.MinInt, math.MaxInt}
	someModes = []int8{shared, own, shared, own, shared, own, 0, 3, -1, 127, -128}
)

func one[T any](r *rand.Rand, l []T) T { return l[r.Intn(len(l))] }

func anyHolds(r *rand.Rand, most int) []api.Hold {
	var l []api.Hold
	for range r.Intn(most + 1) {
		l = append(l, hold(one(r, someKeys), one(r, someEnds), one(r, someEnds), one(r, someModes)))
	}
	return l
}

func anyTable(r *rand.Rand) api.Table {
	t := api.Table{Holds: anyHolds(r, 3), Queue: anyHolds(r, 6)}
	for range r.Intn(5) {
		t.Slots = append(t.Slots, api.Slot{Key: one(r, someKeys), Claim: one(r, someKeys)})
	}
	return t
}

func anyCmd(r *rand.Rand, t api.Table) api.Cmd {
	c := api.Cmd{Kind: int8(r.Intn(8) - 1), By: one(r, someKeys), Serial: one(r, someEnds), Dead: one(r, someKeys), Was: one(r, someKeys), Span: span(one(r, someEnds), one(r, someEnds)), Mode: one(r, someModes)}
	if l := slices.Concat(t.Holds, t.Queue); len(l) > 0 && r.Intn(2) == 0 { // what is there, else hardly a free would find it
		h := one(r, l)
		c.Span, c.By = h.Span, h.Key
	}
	if len(t.Slots) > 0 && r.Intn(2) == 0 {
		s := one(r, t.Slots)
		c.Dead, c.Was = s.Key, s.Claim
		if c.Kind == ask {
			lo := r.Intn(4)
			c.By, c.Span = s.Key, span(lo, lo+r.Intn(3))
		}
		if c.Kind == purge {
			c.By = s.Claim
		}
	}
	return c
}

func TestAnyTableAnyCommand(t *testing.T) {
	r := rand.New(rand.NewSource(11))
	var changed [8]int
	yes := 0
	for range 300000 {
		x := anyTable(r)
		g := geo(len(x.Slots)+r.Intn(20)/19, 4)
		c := anyCmd(r, x)
		want := applied(g, x, c)
		if o := table.Apply(g, x, c); !same(o, want) || !table.Same(o, want) {
			t.Fatalf("%+v behind %+v: %+v, not %+v", x, c, o, want)
		}
		if !same(x, want) {
			changed[c.Kind+1]++
		}
		if o := table.Grant(x); !same(o, granted(x)) {
			t.Fatalf("%+v: %+v", x, o)
		}
		if is := may(g, x); table.May(g, x) != is {
			t.Fatalf("%+v: not %v", x, is)
		} else if is {
			yes++
		}
		key := one(r, someKeys)
		slotIs(t, x, key, slotOf(x, key))
		demandsAre(t, x, key, demands(x, key)...)
	}
	for kind := mount; kind <= purge; kind++ {
		if changed[kind+1] < 1000 {
			t.Error(kind, changed[kind+1])
		}
	}
	if yes < 1000 || changed[0] != 0 || changed[7] != 0 {
		t.Error(yes, changed)
	}
}

func demands(t api.Table, key int) []api.Hold {
	var l []api.Hold
	for _, q := range t.Queue {
		for _, h := range t.Holds {
			if h.Key == key && !together(q, h) {
				l = append(l, q)
				break
			}
		}
	}
	return l
}

// P11.3.

// follows asks of a step what the chapter says that follows.
func follows(t *testing.T, g api.Geo, x api.Table, c api.Cmd, o api.Table) {
	t.Helper()
	if !table.May(g, o) || !may(g, o) {
		t.Fatalf("%+v behind %+v: %+v may not be", x, c, o)
	}
	for i, h := range o.Holds {
		if unlike(h, o.Holds[:i]) > 0 {
			t.Fatalf("%+v behind %+v: %+v do not go together", x, c, o.Holds)
		}
	}
	nonePassed(t, x, o)
	othersKept(t, x, c, o)
}

// nonePassed asks that who is granted goes together with all that were ahead of it and still wait.
func nonePassed(t *testing.T, x, o api.Table) {
	t.Helper()
	for i, h := range x.Queue {
		if !slices.Contains(o.Holds, h) {
			continue
		}
		for _, ahead := range x.Queue[:i] {
			if slices.Contains(o.Queue, ahead) && !together(h, ahead) {
				t.Fatalf("%+v: %+v passed %+v", x, h, ahead)
			}
		}
	}
	left := slices.DeleteFunc(slices.Clone(x.Queue), func(h api.Hold) bool { return !slices.Contains(o.Queue, h) })
	kept := slices.DeleteFunc(slices.Clone(o.Queue), func(h api.Hold) bool { return !slices.Contains(x.Queue, h) })
	if !slices.Equal(left, kept) {
		t.Fatalf("%+v: the queue's order is %+v", x, o.Queue)
	}
}

// othersKept asks that others' holds are as they were, and behind them such as they waited for. A purge is Dead's own leave.
func othersKept(t *testing.T, x api.Table, c api.Cmd, o api.Table) {
	t.Helper()
	whose := c.By
	if c.Kind == purge {
		whose = c.Dead
	}
	mine := func(h api.Hold) bool { return h.Key == whose }
	was := slices.DeleteFunc(slices.Clone(x.Holds), mine)
	now := slices.DeleteFunc(slices.Clone(o.Holds), mine)
	if len(now) < len(was) || !slices.Equal(was, now[:len(was)]) {
		t.Fatalf("%+v behind %+v: %+v", x, c, o)
	}
	for _, h := range now[len(was):] {
		if !slices.Contains(x.Queue, h) || slices.Contains(o.Queue, h) {
			t.Fatalf("%+v behind %+v: %+v was not granted", x, c, h)
		}
	}
	waits := slices.DeleteFunc(slices.Clone(x.Queue), mine)
	still := slices.DeleteFunc(slices.Clone(o.Queue), mine)
	if len(waits) != len(still)+len(now)-len(was) {
		t.Fatalf("%+v behind %+v: %+v has lost some that waited", x, c, o)
	}
}

// commands are all kinds of the keys, of the spans of that many blocks and one more, and such as may not be.
func commands(blocks int, keys ...int) []api.Cmd {
	var l []api.Cmd
	for _, key := range keys {
		l = append(l, mountBy(key), leaveBy(key), api.Cmd{Kind: 6, By: key}, api.Cmd{Kind: -1, By: key})
		for lo := -1; lo <= blocks; lo++ {
			for hi := lo - 1; hi <= blocks; hi++ {
				l = append(l, askBy(key, lo, hi, shared), askBy(key, lo, hi, own), freeBy(key, lo, hi))
			}
		}
		l = append(l, askBy(key, 0, 0, 0), askBy(key, 0, 0, 3))
		for _, dead := range keys {
			l = append(l, purgeBy(key, dead), claimBy(key, dead, 0))
			for _, was := range keys {
				l = append(l, claimBy(key, dead, was))
			}
		}
	}
	return l
}

// nameOf tells tables apart.
func nameOf(t api.Table) string {
	var b []byte
	number := func(l ...int) {
		for _, n := range l {
			b = append(b, byte(n), ',')
		}
	}
	for _, s := range t.Slots {
		number(s.Key, s.Claim)
	}
	for _, h := range t.Holds {
		number(h.Key, h.Span.Lo, h.Span.Hi, int(h.Mode))
	}
	number(-1)
	for _, h := range t.Queue {
		number(h.Key, h.Span.Lo, h.Span.Hi, int(h.Mode))
	}
	return string(b)
}

// reach goes from the new table by all the commands, till so many tables were met.
func reach(t *testing.T, g api.Geo, most int, l []api.Cmd) int {
	t.Helper()
	met := map[string]bool{}
	row := []api.Table{table.New(g)}
	for len(row) > 0 {
		x := row[0]
		row = row[1:]
		for _, c := range l {
			o := table.Apply(g, x, c)
			if want := applied(g, x, c); !same(o, want) {
				t.Fatalf("%+v behind %+v: %+v, not %+v", x, c, o, want)
			}
			if name := nameOf(o); !met[name] && len(met) < most {
				met[name] = true
				row = append(row, o)
				follows(t, g, x, c, o)
			}
		}
	}
	return len(met)
}

func TestAllThatComes(t *testing.T) {
	if n := reach(t, geo(2, 1), 1<<20, commands(1, 16, 17)); n < 100 {
		t.Error(n)
	}
	if n := reach(t, geo(2, 2), 6000, commands(2, 16, 17, 33)); n != 6000 {
		t.Error(n)
	}
	if n := reach(t, geo(3, 2), 3000, commands(2, 16, 0, 18, -16, 17)); n != 3000 {
		t.Error(n)
	}
}

// Long ways, with more nodes and blocks than could be gone through one by one.
func TestLongWays(t *testing.T) {
	r := rand.New(rand.NewSource(12))
	granted, waits, most := 0, 0, 0
	for range 200 {
		g := geo(1+r.Intn(16), 1+r.Intn(64))
		x := table.New(g)
		for range 1000 {
			c := wayCmd(r, g, x)
			o := table.Apply(g, x, c)
			if want := applied(g, x, c); !same(o, want) {
				t.Fatalf("%+v behind %+v: %+v, not %+v", x, c, o, want)
			}
			follows(t, g, x, c, o)
			granted += max(0, len(x.Queue)-len(o.Queue))
			waits += len(o.Queue)
			most = max(most, len(o.Holds))
			x = o
		}
	}
	if granted < 1000 || waits < 1000 || most < 20 {
		t.Error(granted, waits, most)
	}
}

func wayCmd(r *rand.Rand, g api.Geo, x api.Table) api.Cmd {
	by, dead := 16+r.Intn(20), 16+r.Intn(20)
	lo := r.Intn(g.Blocks)
	was := 0
	if i := slotOf(x, dead); i >= 0 {
		was = x.Slots[i].Claim
	}
	switch r.Intn(20) {
	case 0, 1, 2:
		return mountBy(by)
	case 3:
		return leaveBy(by)
	case 4:
		return claimBy(by, dead, was)
	case 5:
		return purgeBy(was, dead)
	case 6, 7, 8, 9, 10:
		if l := slices.Concat(x.Holds, x.Queue); len(l) > 0 {
			h := one(r, l)
			return freeBy(h.Key, h.Span.Lo, h.Span.Hi)
		}
	}
	return askBy(by, lo, min(lo+r.Intn(4), g.Blocks-1+r.Intn(20)/19), int8(1+r.Intn(2)))
}

// A table that is full of holds, as many as there may be, and all of them granted anew when one leaves.
func TestFullTable(t *testing.T) {
	g := geo(16, 64)
	x := table.New(g)
	for key := 16; key < 32; key++ {
		x = table.Apply(g, x, mountBy(key))
	}
	for block := range 64 {
		x = table.Apply(g, x, askBy(16, block, block, own))
	}
	for key := 17; key < 32; key++ {
		for block := range 64 {
			x = table.Apply(g, x, askBy(key, block, block, shared))
		}
	}
	if len(x.Holds) != 64 || len(x.Queue) != 15*64 || !table.May(g, x) || len(table.Demands(x, 16)) != 15*64 {
		t.Fatal(len(x.Holds), len(x.Queue))
	}
	o := table.Apply(g, x, leaveBy(16))
	if !slices.Equal(o.Holds, x.Queue) || len(o.Queue) != 0 || !table.May(g, o) {
		t.Fatal(len(o.Holds), len(o.Queue))
	}
}

// R1, R3 and R4.

// Each call is made at the ends of the ints; that none panics is asked, and that each is as the words say.
func TestFarArguments(t *testing.T) {
	ints := []int{math.MinInt, math.MinInt + 1, -1, 0, 1, 16, 1 << 32, math.MaxInt - 1, math.MaxInt}
	for _, a := range ints {
		for _, b := range ints {
			for _, mode := range []int8{math.MinInt8, -1, 0, shared, own, 3, math.MaxInt8} {
				x := api.Table{Slots: []api.Slot{{Key: a, Claim: b}, {Key: 16}, {}}, Holds: list(hold(a, a, b, mode), hold(16, b, a, own)), Queue: list(hold(b, a, b, own), hold(16, b, a, mode), hold(17, a, a, shared))}
				for _, g := range []api.Geo{geo(3, a), geo(a, b), {Nodes: a, Slots: b, Blocks: a, Per: b, Journal: a, Log: b, Lease: a, Wait: b}} {
					far := api.Cmd{By: a, Serial: b, Dead: b, Was: a, Span: span(a, b), Mode: mode}
					for _, kind := range []int8{math.MinInt8, -1, mount, leave, ask, free, claim, purge, 6, math.MaxInt8} {
						far.Kind = kind
						applyIs(t, g, x, far, applied(g, x, far))
						applyIs(t, g, api.Table{}, far, applied(g, api.Table{}, far))
					}
					if table.May(g, x) != may(g, x) {
						t.Fatalf("%+v", x)
					}
				}
				slotIs(t, x, a, slotOf(x, a))
				demandsAre(t, x, a, demands(x, a)...)
			}
		}
	}
}

// roomy is the table with spare room behind each list, and all of that.
func roomy(x api.Table) (o, all api.Table) {
	all.Slots = append(slices.Clone(x.Slots), api.Slot{Key: 91, Claim: 92}, api.Slot{Key: 93}, api.Slot{})
	all.Holds = append(slices.Clone(x.Holds), ones(94, 0, 70, own)...)
	all.Queue = append(slices.Clone(x.Queue), ones(95, 0, 70, shared)...)
	return api.Table{Slots: all.Slots[:len(x.Slots)], Holds: all.Holds[:len(x.Holds)], Queue: all.Queue[:len(x.Queue)]}, all
}

// spoil writes all over a table, as far as its lists' room goes.
func spoil(t api.Table) {
	for i := range t.Slots[:cap(t.Slots)] {
		t.Slots[:cap(t.Slots)][i] = api.Slot{Key: -77, Claim: -77}
	}
	spoilHolds(t.Holds, -78)
	spoilHolds(t.Queue, -79)
}

func spoilHolds(l []api.Hold, key int) {
	l = l[:cap(l)]
	for i := range l {
		l[i] = hold(key, key, key, 99)
	}
}

// calls are all that answer tables or lists.
func calls() []func(api.Table) api.Table {
	var l []func(api.Table) api.Table
	g := geo(3, 4)
	for _, c := range append(commands(4, 16, 17, 18, 33, 0), mountBy(1), leaveBy(2), freeBy(1, 0, 3)) {
		l = append(l, func(x api.Table) api.Table { return table.Apply(g, x, c) })
	}
	l = append(l, table.Grant)
	for key := range 20 {
		l = append(l, func(x api.Table) api.Table { return api.Table{Holds: table.Demands(x, key)} })
	}
	return append(l, func(x api.Table) api.Table {
		table.May(g, x)
		table.Slot(x, 17)
		table.Same(x, x)
		return table.New(g)
	})
}

func some() []api.Table {
	l := []api.Table{{}, {Queue: list(hold(16, 0, 0, own), hold(17, 1, 1, own))}, {Slots: slots(0, 0, 0), Holds: list(hold(16, 0, 0, own)), Queue: list(hold(16, 1, 1, own), hold(17, 0, 1, own))}}
	for _, x := range good() {
		if len(x.t.Holds)+len(x.t.Queue) < 8 {
			l = append(l, x.t)
		}
	}
	return append(l, api.Table{Slots: []api.Slot{{Key: 16, Claim: 17}, {Key: 17, Claim: 16}, {Key: 18, Claim: 33}}, Holds: list(hold(16, 0, 1, own), hold(17, 2, 2, shared)), Queue: list(hold(18, 0, 2, own), hold(17, 1, 1, shared), hold(16, 2, 3, own))})
}

func TestHandedInUnchanged(t *testing.T) {
	for _, call := range calls() {
		for _, x := range some() {
			o, all := roomy(x)
			was := clone(all)
			answer := call(o)
			told := clone(answer)
			if !same(all, was) {
				t.Fatalf("%+v: %+v", x, all)
			}
			spoil(answer)
			if !same(all, was) {
				t.Fatalf("%+v shares memory with its answer", x)
			}
			answer = call(o)
			if !same(answer, told) {
				t.Fatalf("%+v: %+v, then %+v", x, told, answer)
			}
			spoil(all)
			if !same(answer, told) {
				t.Fatalf("%+v: the answer %+v is not its own", x, answer)
			}
		}
	}
}

// No two lists of one answer share memory, and no two answers do.
func TestAnswersApart(t *testing.T) {
	for _, call := range calls() {
		for _, x := range some() {
			one, two := call(x), call(x)
			told := clone(two)
			spoil(one)
			if !same(two, told) {
				t.Fatalf("%+v: %+v", x, two)
			}
			spoilHolds(two.Holds, -80)
			if !slices.Equal(two.Queue, told.Queue) {
				t.Fatalf("%+v: %+v", x, two)
			}
		}
	}
}

// What is called between two calls is not to be told from the second one's answer.
func TestNothingKept(t *testing.T) {
	ask := func() []api.Table {
		var l []api.Table
		for _, call := range calls() {
			for _, x := range some() {
				l = append(l, clone(call(x)))
			}
		}
		return l
	}
	was := ask()
	r := rand.New(rand.NewSource(13))
	for range 1000 {
		x := anyTable(r)
		table.Apply(geo(3, 4), x, anyCmd(r, x))
		table.May(geo(len(x.Slots), 4), x)
	}
	if !slices.EqualFunc(ask(), was, same) {
		t.Error("another answer")
	}
}
