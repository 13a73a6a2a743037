package device_test

import (
	"fmt"
	"math"
	"slices"
	"sort"
	"strings"
	"testing"

	"breakwater/api"
	"breakwater/device"
)

// mostNext is the greatest Next that may be.
const mostNext = 1 << 36

// full is the longest text that a sector takes, long is a byte longer.
var (
	full = strings.Repeat("f", 512)
	long = strings.Repeat("l", 513)
)

// model is a device told in other words: maps, and the order of a cache apart.
type model struct {
	stands []string
	nodes  []*modelNode
	next   int
	fenced map[int]bool
}

type modelNode struct {
	key   int
	order []int
	has   map[int]string
}

func newModel(nodes int, sectors ...string) *model {
	m := &model{stands: slices.Clone(sectors), next: 1, fenced: map[int]bool{}}
	for range nodes {
		m.nodes = append(m.nodes, &modelNode{has: map[int]string{}})
	}
	return m
}

func (m *model) device() api.Device {
	d := api.Device{S: slices.Clone(m.stands), Next: m.next}
	for _, n := range m.nodes {
		var l []api.Cell
		for _, sector := range n.order {
			l = append(l, api.Cell{Sector: sector, B: n.has[sector]})
		}
		d.Cache = append(d.Cache, l)
		d.Keys = append(d.Keys, n.key)
	}
	for key := range m.fenced {
		d.Fenced = append(d.Fenced, key)
	}
	sort.Ints(d.Fenced)
	return d
}

func (m *model) out(node int) bool { return m.nodes[node].key == 0 || m.fenced[m.nodes[node].key] }

// refuses is the order of the errors, as the sentence on Do has it; the device itself may be.
func (m *model) refuses(node int, a api.Act) api.Errno {
	if node < 0 || node >= len(m.nodes) {
		return api.ErrArg
	}
	switch a.Kind {
	case 1, 4:
	case 2, 3:
		if len(a.B) > 512 {
			return api.ErrArg
		}
	case 5:
		if a.Key < 16 || a.Key >= 16*m.next || a.Key%16 >= len(m.nodes) {
			return api.ErrArg
		}
	case 6:
		if 16*(m.next+1) > 1<<40 {
			return api.ErrArg
		}
	default:
		return api.ErrArg
	}
	if a.Kind != 6 && m.out(node) {
		return api.ErrFenced
	}
	if a.Kind <= 3 && (a.Sector < 0 || a.Sector >= len(m.stands)) {
		return api.ErrRange
	}
	return api.OK
}

func (n *modelNode) drop(sector int) {
	delete(n.has, sector)
	var l []int
	for _, s := range n.order {
		if s != sector {
			l = append(l, s)
		}
	}
	n.order = l
}

func (n *modelNode) forget() { n.order, n.has = nil, map[int]string{} }

func (m *model) do(node int, a api.Act) string {
	n := m.nodes[node]
	had, has := n.has[a.Sector]
	switch a.Kind {
	case 1:
		if has {
			return had
		}
		return m.stands[a.Sector]
	case 2:
		m.stands[a.Sector] = a.B
		n.drop(a.Sector)
	case 3:
		n.has[a.Sector] = a.B
		if !has {
			n.order = append(n.order, a.Sector)
		}
	case 4:
		if len(n.order) > 0 {
			m.stands[n.order[0]] = n.has[n.order[0]]
			n.drop(n.order[0])
		}
	case 5:
		m.fenced[a.Key] = true
	case 6:
		n.key = 16*m.next + node
		m.next++
		n.forget()
		return sixBytes(n.key)
	}
	return ""
}

func sixBytes(n int) string {
	s := ""
	for range 6 {
		s += string([]byte{byte(n % 256)})
		n /= 256
	}
	return s
}

func (m *model) crash(node int, kept uint64) {
	n := m.nodes[node]
	for _, sector := range n.order {
		if kept%2 == 1 && !m.out(node) {
			m.stands[sector] = n.has[sector]
		}
		kept /= 2
	}
	n.forget()
}

// may is the chapter's sentence once more, over maps and texts.
func may(d api.Device) bool {
	for _, s := range d.S {
		if len(s) > 512 {
			return false
		}
	}
	if len(d.S) < 1 || len(d.Keys) < 1 || len(d.Keys) > 16 || len(d.Cache) != len(d.Keys) || d.Next < 1 || d.Next > mostNext {
		return false
	}
	for _, l := range d.Cache {
		seen := map[int]bool{}
		for _, c := range l {
			if seen[c.Sector] || c.Sector < 0 || c.Sector >= len(d.S) || len(c.B) > 512 {
				return false
			}
			seen[c.Sector] = true
		}
	}
	for i, key := range d.Keys {
		if key != 0 && (key < 16 || key >= 16*d.Next || key%16 != i) {
			return false
		}
	}
	for i, key := range d.Fenced {
		if key < 16 || key >= 16*d.Next || key%16 >= len(d.Keys) || i > 0 && key <= d.Fenced[i-1] {
			return false
		}
	}
	return true
}

// told is all of a device in a text, in which none and nothing are alike.
func told(d api.Device) string {
	s := fmt.Sprintf("%d %q\n%d %v\n%d %v\n%d\n%d\n", len(d.S), d.S, len(d.Keys), d.Keys, len(d.Fenced), d.Fenced, d.Next, len(d.Cache))
	for _, l := range d.Cache {
		for _, c := range l {
			s += fmt.Sprintf("%d %q, ", c.Sector, c.B)
		}
		s += fmt.Sprintln(len(l))
	}
	return s
}

func deepCopy(d api.Device) api.Device {
	o := api.Device{Next: d.Next}
	o.S = append(o.S, d.S...)
	o.Keys = append(o.Keys, d.Keys...)
	o.Fenced = append(o.Fenced, d.Fenced...)
	for _, l := range d.Cache {
		o.Cache = append(o.Cache, append([]api.Cell(nil), l...))
	}
	return o
}

// roomy is d with spare room behind each of its lists, filled with what nobody may touch.
func roomy(d api.Device) api.Device {
	o := deepCopy(d)
	o.S = append(o.S, "room", "room", "room")[:len(d.S)]
	o.Keys = append(o.Keys, -5, -5, -5)[:len(d.Keys)]
	o.Fenced = append(o.Fenced, -6, -6, -6)[:len(d.Fenced)]
	for i, l := range o.Cache {
		o.Cache[i] = append(l, api.Cell{Sector: -7}, api.Cell{Sector: -7})[:len(l)]
	}
	o.Cache = append(o.Cache, []api.Cell{{Sector: -8}})[:len(d.Cache)]
	return o
}

// spare is all of roomy's device, with what is behind its lists.
func spare(d api.Device) string {
	d.S, d.Keys, d.Fenced, d.Cache = d.S[:cap(d.S)], d.Keys[:cap(d.Keys)], d.Fenced[:cap(d.Fenced)], slices.Clone(d.Cache[:cap(d.Cache)])
	for i, l := range d.Cache {
		d.Cache[i] = l[:cap(l)]
	}
	return told(d)
}

// spoil writes over all that d has, room included.
func spoil(d api.Device) {
	for i := range d.S[:cap(d.S)] {
		d.S[:cap(d.S)][i] = "spoilt"
	}
	for i := range d.Keys[:cap(d.Keys)] {
		d.Keys[:cap(d.Keys)][i] = -99
	}
	for i := range d.Fenced[:cap(d.Fenced)] {
		d.Fenced[:cap(d.Fenced)][i] = -99
	}
	for i, l := range d.Cache[:cap(d.Cache)] {
		for j := range l[:cap(l)] {
			l[:cap(l)][j] = api.Cell{Sector: -99, B: "spoilt"}
		}
		d.Cache[:cap(d.Cache)][i] = nil
	}
}

// fresh is a device of which each node that is named has registered, in that order.
func fresh(t *testing.T, nodes int, named []int, sectors ...string) api.Device {
	t.Helper()
	d, e := device.New(nodes, sectors...)
	if e != api.OK {
		t.Fatal("new", e)
	}
	for _, node := range named {
		d, _ = do(t, d, node, api.Act{Kind: api.AcRegister})
	}
	return d
}

func do(t *testing.T, d api.Device, node int, a api.Act) (api.Device, string) {
	t.Helper()
	o, got, e := device.Do(d, node, a)
	if e != api.OK {
		t.Fatal(node, a, e)
	}
	return o, got
}

func put(sector int, s string) api.Act   { return api.Act{Kind: api.AcPut, Sector: sector, B: s} }
func force(sector int, s string) api.Act { return api.Act{Kind: api.AcForce, Sector: sector, B: s} }
func read(sector int) api.Act            { return api.Act{Kind: api.AcRead, Sector: sector} }
func fence(key int) api.Act              { return api.Act{Kind: api.AcFence, Key: key} }

var (
	register = api.Act{Kind: api.AcRegister}
	flush    = api.Act{Kind: api.AcFlush}
)

// rich is a device with something in each of its fields: node 1 is fenced, node 2 has no key, both have caches all the same.
func rich() api.Device {
	return api.Device{
		S:      []string{"x", "", full, "y"},
		Cache:  [][]api.Cell{{{Sector: 2, B: "a"}, {Sector: 0, B: ""}}, {{Sector: 3, B: full}}, {{Sector: 3, B: "n"}, {Sector: 0, B: "m"}}, nil},
		Keys:   []int{48, 65, 0, 99},
		Next:   9,
		Fenced: []int{33, 65, 66},
	}
}

// odd are devices that may not be, each by one field, beside some that may be just so.
func odd() map[string]api.Device {
	l := map[string]api.Device{}
	add := func(name string, change func(*api.Device)) {
		d := deepCopy(rich())
		change(&d)
		l[name] = d
	}
	l["zero"] = api.Device{}
	add("as it is", func(d *api.Device) {})
	add("no sectors", func(d *api.Device) { d.S = nil })
	add("no sectors, no caches", func(d *api.Device) { d.S = nil; d.Cache = make([][]api.Cell, 4) })
	add("one sector, no caches", func(d *api.Device) { d.S = []string{"s"}; d.Cache = make([][]api.Cell, 4) })
	add("long sector", func(d *api.Device) { d.S[1] = long })
	add("long last sector", func(d *api.Device) { d.S[3] = long })
	add("no nodes", func(d *api.Device) { d.Keys, d.Cache, d.Fenced = nil, nil, nil })
	add("a cache less", func(d *api.Device) { d.Cache = d.Cache[:3] })
	add("a cache more", func(d *api.Device) { d.Cache = append(d.Cache, nil) })
	add("no caches", func(d *api.Device) { d.Cache = nil })
	add("no keys", func(d *api.Device) { d.Keys = nil })
	add("16 nodes", func(d *api.Device) { d.Keys = append(d.Keys, make([]int, 12)...); d.Cache = make([][]api.Cell, 16) })
	add("17 nodes", func(d *api.Device) { d.Keys = append(d.Keys, make([]int, 13)...); d.Cache = make([][]api.Cell, 17) })
	add("sector twice", func(d *api.Device) { d.Cache[0] = append(d.Cache[0], api.Cell{Sector: 2, B: "a"}) })
	add("sector twice at once", func(d *api.Device) { d.Cache[3] = []api.Cell{{Sector: 0}, {Sector: 0}} })
	add("all sectors", func(d *api.Device) { d.Cache[3] = []api.Cell{{Sector: 3}, {Sector: 1}, {Sector: 0}, {Sector: 2}} })
	add("more than all sectors", func(d *api.Device) {
		d.Cache[3] = []api.Cell{{Sector: 3}, {Sector: 1}, {Sector: 0}, {Sector: 2}, {Sector: 3}}
	})
	for _, n := range []int{-1, 4, math.MinInt, math.MaxInt, 1 << 32} {
		add(fmt.Sprint("sector in a cache ", n), func(d *api.Device) { d.Cache[3] = []api.Cell{{Sector: n}} })
	}
	add("long in a cache", func(d *api.Device) { d.Cache[2][1].B = long })
	add("full in a cache", func(d *api.Device) { d.Cache[2][1].B = full })
	for _, n := range []int{math.MinInt, -1, 0, 1, 3, 4, 5, 6, 7, mostNext - 1, mostNext, mostNext + 1, 1 << 40, 1 << 60, 1<<60 + 9, math.MaxInt} {
		add(fmt.Sprint("next ", n), func(d *api.Device) { d.Next = n })
		add(fmt.Sprint("next alone ", n), func(d *api.Device) { d.Next, d.Keys, d.Fenced = n, make([]int, 4), nil })
	}
	for _, n := range []int{math.MinInt, -13, -16, -1, 1, 3, 15, 16, 17, 18, 19, 20, 31, 35, 8*16 + 2, 8*16 + 3, 8*16 + 4, 9*16 - 1, 9 * 16, 9*16 + 3, 1 << 40, 1<<62 + 19, 1<<32 + 19, math.MaxInt} {
		add(fmt.Sprint("key ", n), func(d *api.Device) { d.Keys[3] = n })
		add(fmt.Sprint("one fenced ", n), func(d *api.Device) { d.Fenced = []int{n} })
		add(fmt.Sprint("last fenced ", n), func(d *api.Device) { d.Fenced[2] = n })
		add(fmt.Sprint("first fenced ", n), func(d *api.Device) { d.Fenced[0] = n })
	}
	add("the first node's key", func(d *api.Device) { d.Keys[0] = 16 })
	add("another one's key", func(d *api.Device) { d.Keys[0] = 65 })
	add("fenced twice", func(d *api.Device) { d.Fenced = []int{33, 33} })
	add("fenced falls", func(d *api.Device) { d.Fenced = []int{33, 65, 64} })
	add("fenced 0", func(d *api.Device) { d.Fenced = []int{0, 33} })
	return l
}

// P6.1, New.

func TestNew(t *testing.T) {
	for _, nodes := range []int{1, 2, 15, 16} {
		for _, sectors := range [][]string{{""}, {full}, {"a", full, ""}, make([]string, 2000)} {
			d, e := device.New(nodes, sectors...)
			if want := newModel(nodes, sectors...).device(); e != api.OK || told(d) != told(want) || device.Check(d) != api.OK {
				t.Error(nodes, len(sectors), e)
			}
			if d.Next != 1 || len(d.Keys) != nodes || len(d.Cache) != nodes || len(d.Fenced) != 0 {
				t.Error(nodes, d.Next, d.Keys)
			}
		}
	}
}

func TestNewRefuses(t *testing.T) {
	for _, nodes := range []int{0, -1, 17, 18, 1 << 20, math.MaxInt, math.MinInt, 1<<32 + 1, 1<<8 + 1} {
		if d, e := device.New(nodes, "x"); e != api.ErrArg || told(d) != told(api.Device{}) {
			t.Error(nodes, e, d)
		}
	}
	for _, sectors := range [][]string{nil, {}, {long}, {"", long}, {long, ""}, {strings.Repeat("z", 1<<16+1)}} {
		if d, e := device.New(2, sectors...); e != api.ErrArg || told(d) != told(api.Device{}) {
			t.Error(len(sectors), e)
		}
	}
}

func TestNewIsNewMemory(t *testing.T) {
	in := []string{"a", "b", "room", "room"}
	d, _ := device.New(2, in[:2]...)
	other, _ := device.New(2, in[:2]...)
	spoil(d)
	if !slices.Equal(in, []string{"a", "b", "room", "room"}) || told(other) != told(newModel(2, "a", "b").device()) {
		t.Error(in, other)
	}
	in[0] = "later"
	if other.S[0] != "a" {
		t.Error(other.S)
	}
}

// P6.1, Check.

func TestCheck(t *testing.T) {
	good := 0
	for name, d := range odd() {
		want := api.ErrArg
		if may(d) {
			want = api.OK
			good++
		}
		was := roomy(d)
		before := spare(was)
		for range 2 {
			if e := device.Check(was); e != want {
				t.Error(name, e, want)
			}
		}
		if spare(was) != before {
			t.Error(name, "changed")
		}
	}
	if good < 10 || len(odd())-good < 50 {
		t.Error("the devices are not mixed", good, len(odd()))
	}
}

// TestCheckPlainly has the most of these answers written out, lest the model err likewise.
func TestCheckPlainly(t *testing.T) {
	for name, want := range map[string]api.Errno{
		"as it is": api.OK, "zero": api.ErrArg, "no sectors, no caches": api.ErrArg, "one sector, no caches": api.OK,
		"long sector": api.ErrArg, "long last sector": api.ErrArg, "no nodes": api.ErrArg, "16 nodes": api.OK, "17 nodes": api.ErrArg,
		"a cache less": api.ErrArg, "a cache more": api.ErrArg, "sector twice": api.ErrArg, "sector twice at once": api.ErrArg,
		"all sectors": api.OK, "more than all sectors": api.ErrArg, "sector in a cache -1": api.ErrArg, "sector in a cache 4": api.ErrArg,
		"long in a cache": api.ErrArg, "full in a cache": api.OK, "next 6": api.ErrArg, "next 7": api.OK,
		"next alone 0": api.ErrArg, "next alone 1": api.OK, fmt.Sprint("next ", mostNext): api.OK, fmt.Sprint("next ", mostNext+1): api.ErrArg,
		"key 3": api.ErrArg, "key 16": api.ErrArg, "key 19": api.OK, "key 35": api.OK, "key 131": api.OK, "key 147": api.ErrArg, "key -13": api.ErrArg,
		"another one's key": api.ErrArg, "one fenced 15": api.ErrArg, "one fenced 16": api.OK, "one fenced 19": api.OK, "one fenced 20": api.ErrArg,
		"one fenced 131": api.OK, "one fenced 132": api.ErrArg, "one fenced 144": api.ErrArg,
		"fenced twice": api.ErrArg, "fenced falls": api.ErrArg, "fenced 0": api.ErrArg,
	} {
		d, ok := odd()[name]
		if e := device.Check(d); !ok || e != want {
			t.Error(name, ok, e, want)
		}
	}
}

// P6.1, Fenced.

func TestFenced(t *testing.T) {
	d := rich()
	for i, x := range []struct {
		keys []int
		want bool
	}{
		{nil, false}, {[]int{}, false}, {[]int{33}, true}, {[]int{65}, true}, {[]int{66}, true}, {[]int{34}, false}, {[]int{64}, false},
		{[]int{48}, false}, {[]int{0}, true}, {[]int{-1}, true}, {[]int{math.MinInt}, true}, {[]int{1}, false}, {[]int{math.MaxInt}, false},
		{[]int{1<<32 + 33}, false}, {[]int{48, 99, 66}, true}, {[]int{66, 48}, true}, {[]int{48, 99}, false}, {[]int{48, 0}, true}, {[]int{1, 2, 3, 65, 4}, true},
	} {
		in := append(slices.Clone(x.keys), 33, 33)[:len(x.keys)] // what is behind the keys is not asked
		if got := device.Fenced(d, in...); got != x.want {
			t.Error(i, x.keys, got)
		}
	}
	none, _ := device.New(1, "x")
	if device.Fenced(none, 16) || !device.Fenced(none, 0) || device.Fenced(none) || !device.Fenced(none, 16, 0) {
		t.Error("nothing is fenced there")
	}
	if device.Fenced(api.Device{}, 16) || !device.Fenced(api.Device{}, -3) || !device.Fenced(api.Device{Fenced: []int{33, 16}}, 16) {
		t.Error("a device that may not be")
	}
}

// P6.1, Cached.

func TestCached(t *testing.T) {
	for node, want := range []int{2, 1, 2, 0, 0, 0} {
		if n := device.Cached(rich(), node); n != want {
			t.Error(node, n)
		}
	}
	for _, node := range []int{-1, 4, 16, math.MinInt, math.MaxInt, 1 << 32, -1 << 32} {
		if n := device.Cached(rich(), node); n != 0 {
			t.Error(node, n)
		}
	}
	if n := device.Cached(api.Device{}, 0); n != 0 {
		t.Error(n)
	}
}

// P6.1, Same.

func TestSame(t *testing.T) {
	base := rich()
	if !device.Same(base, deepCopy(base)) || !device.Same(base, base) || !device.Same(api.Device{}, api.Device{}) {
		t.Error("not the same as itself")
	}
	alike := deepCopy(base)
	alike.Cache[3] = []api.Cell{}
	if !device.Same(base, alike) || !device.Same(alike, base) {
		t.Error("a cache of none and of nothing")
	}
	if empty := (api.Device{S: []string{}, Cache: [][]api.Cell{}, Keys: []int{}, Fenced: []int{}}); !device.Same(api.Device{}, empty) || !device.Same(empty, api.Device{}) {
		t.Error("none and nothing")
	}
	for i, change := range []func(*api.Device){
		func(d *api.Device) { d.S[0] = "z" },
		func(d *api.Device) { d.S[3] = "" },
		func(d *api.Device) { d.S = append(d.S, "") },
		func(d *api.Device) { d.S = d.S[:3] },
		func(d *api.Device) { d.S = nil },
		func(d *api.Device) { d.Cache[0][1].B = "b" },
		func(d *api.Device) { d.Cache[0][1].Sector = 1 },
		func(d *api.Device) { d.Cache[0][0], d.Cache[0][1] = d.Cache[0][1], d.Cache[0][0] },
		func(d *api.Device) { d.Cache[0] = d.Cache[0][:1] },
		func(d *api.Device) { d.Cache[3] = []api.Cell{{}} },
		func(d *api.Device) { d.Cache[0], d.Cache[2] = d.Cache[2], d.Cache[0] },
		func(d *api.Device) { d.Cache = d.Cache[:3] },
		func(d *api.Device) { d.Cache = append(d.Cache, nil) },
		func(d *api.Device) { d.Keys[2] = 18 },
		func(d *api.Device) { d.Keys = d.Keys[:3] },
		func(d *api.Device) { d.Keys = append(d.Keys, 0) },
		func(d *api.Device) { d.Next++ },
		func(d *api.Device) { d.Next += 1 << 32 },
		func(d *api.Device) { d.Fenced[2]++ },
		func(d *api.Device) { d.Fenced = d.Fenced[:2] },
		func(d *api.Device) { d.Fenced = nil },
		func(d *api.Device) { d.Fenced = append(d.Fenced, 67) },
	} {
		d := deepCopy(base)
		change(&d)
		if device.Same(base, d) || device.Same(d, base) || !device.Same(d, deepCopy(d)) {
			t.Error(i, "alike")
		}
	}
}

// P6.2, each kind of act.

func TestRead(t *testing.T) {
	d := fresh(t, 2, []int{0, 1}, "first", "mid", full)
	d, _ = do(t, d, 0, put(1, "mine"))
	d, _ = do(t, d, 0, put(2, "")) // nothing at all, but of the cache
	for i, x := range []struct {
		node, sector int
		want         string
	}{{0, 0, "first"}, {0, 1, "mine"}, {0, 2, ""}, {1, 0, "first"}, {1, 1, "mid"}, {1, 2, full}} {
		o, got := do(t, d, x.node, api.Act{Kind: api.AcRead, Sector: x.sector, B: long, Key: -4}) // of a read neither says anything
		if got != x.want || told(o) != told(d) {
			t.Error(i, got)
		}
	}
	for _, sector := range []int{-1, 3, math.MinInt, math.MaxInt, 1 << 32} {
		if _, _, e := device.Do(d, 0, read(sector)); e != api.ErrRange {
			t.Error(sector, e)
		}
	}
}

func TestForce(t *testing.T) {
	d := fresh(t, 2, []int{0, 1}, "p", "q", "r")
	d, _ = do(t, d, 0, put(2, "c2"))
	d, _ = do(t, d, 0, put(0, "c0"))
	d, _ = do(t, d, 0, put(1, "c1"))
	d, _ = do(t, d, 1, put(0, "theirs"))
	o, got := do(t, d, 0, force(0, full))
	if got != "" || !slices.Equal(o.S, []string{full, "q", "r"}) || !slices.Equal(o.Cache[0], []api.Cell{{Sector: 2, B: "c2"}, {Sector: 1, B: "c1"}}) || !slices.Equal(o.Cache[1], []api.Cell{{Sector: 0, B: "theirs"}}) {
		t.Error(got, told(o))
	}
	o, _ = do(t, o, 0, force(2, "")) // once more of the first in the cache, with no bytes
	if !slices.Equal(o.S, []string{full, "q", ""}) || !slices.Equal(o.Cache[0], []api.Cell{{Sector: 1, B: "c1"}}) {
		t.Error(told(o))
	}
	o, _ = do(t, o, 1, force(1, "by 1")) // a sector that its own cache has not
	if o.S[1] != "by 1" || len(o.Cache[0]) != 1 || len(o.Cache[1]) != 1 {
		t.Error(told(o))
	}
	for _, sector := range []int{-1, 3, math.MinInt, math.MaxInt} {
		if _, _, e := device.Do(d, 0, force(sector, "x")); e != api.ErrRange {
			t.Error(sector, e)
		}
	}
}

func TestPut(t *testing.T) {
	d := fresh(t, 2, []int{0, 1}, "p", "q", "r")
	for _, a := range []api.Act{put(2, "one"), put(0, "two"), put(2, full), put(1, ""), put(0, "three")} {
		var got string
		if d, got = do(t, d, 0, a); got != "" {
			t.Error(got)
		}
	}
	want := []api.Cell{{Sector: 2, B: full}, {Sector: 0, B: "three"}, {Sector: 1, B: ""}}
	if !slices.Equal(d.Cache[0], want) || len(d.Cache[1]) != 0 || !slices.Equal(d.S, []string{"p", "q", "r"}) {
		t.Error(told(d))
	}
	for _, sector := range []int{-1, 3, math.MinInt, math.MaxInt} {
		if _, _, e := device.Do(d, 0, put(sector, "x")); e != api.ErrRange {
			t.Error(sector, e)
		}
	}
}

func TestFlush(t *testing.T) {
	d := fresh(t, 2, []int{0, 1}, "p", "q", "r")
	d, _ = do(t, d, 0, put(2, "a"))
	d, _ = do(t, d, 0, put(0, "b"))
	d, _ = do(t, d, 0, put(2, "c"))
	d, _ = do(t, d, 1, put(1, "d"))
	for i, want := range []string{"p q c", "b q c", "b q c"} { // the third one finds nothing
		var got string
		d, got = do(t, d, 0, api.Act{Kind: api.AcFlush, Sector: 77, B: long, Key: -1}) // of a flush none of these says anything
		if got != "" || strings.Join(d.S, " ") != want || device.Cached(d, 0) != max(1-i, 0) || device.Cached(d, 1) != 1 {
			t.Error(i, got, told(d))
		}
	}
}

func TestFence(t *testing.T) {
	d := fresh(t, 3, []int{0, 1, 2, 1, 0}, "p") // 16, 33, 50, 65, 80
	for _, key := range []int{65, 16, 50, 65, 33, 33, 16} {
		was := d
		var got string
		if d, got = do(t, d, 0, fence(key)); got != "" || !device.Fenced(d, key) || device.Check(d) != api.OK {
			t.Error(key, got, d.Fenced)
		}
		was.Fenced = d.Fenced
		if !device.Same(was, d) { // nothing else
			t.Error(key, told(d))
		}
	}
	if !slices.Equal(d.Fenced, []int{16, 33, 50, 65}) {
		t.Error(d.Fenced)
	}
	for _, key := range []int{math.MinInt, -16, -1, 0, 1, 2, 15, 19, 31, 83, 95, 96, 97, 1 << 40, 1<<32 + 16, 1<<62 + 16, math.MaxInt} {
		if o, _, e := device.Do(d, 0, fence(key)); e != api.ErrArg || told(o) != told(d) {
			t.Error(key, e)
		}
	}
	d, _ = do(t, d, 0, fence(80)) // one's own
	if _, _, e := device.Do(d, 0, read(0)); e != api.ErrFenced {
		t.Error(e)
	}
}

func TestFenceOfAnyNode(t *testing.T) {
	d := fresh(t, 16, []int{0}, "p")
	for node := range 16 { // that number was given, to whom the device does not keep
		if _, _, e := device.Do(d, 0, fence(16+node)); e != api.OK {
			t.Error(node, e)
		}
	}
}

func TestRegister(t *testing.T) {
	d := fresh(t, 16, nil, "p")
	for i, node := range []int{0, 15, 3, 3, 0} {
		d.Cache[node] = []api.Cell{{Sector: 0, B: "late"}}
		var got string
		d, got = do(t, d, node, api.Act{Kind: api.AcRegister, Sector: -5, B: long, Key: -9}) // of a register none of these says anything
		key := 16*(i+1) + node
		if d.Keys[node] != key || d.Next != i+2 || got != sixBytes(key) || len(d.Cache[node]) != 0 || d.S[0] != "p" || len(d.Fenced) != 0 || device.Check(d) != api.OK {
			t.Error(i, node, got, told(d))
		}
	}
}

func TestRegisterAtTheEnd(t *testing.T) {
	d := fresh(t, 2, []int{0, 1}, "p")
	d.Next = mostNext - 1
	o, got := do(t, d, 1, register)
	if got != "\xf1\xff\xff\xff\xff\x00" || o.Keys[1] != 1<<40-15 || o.Next != mostNext || device.Check(o) != api.OK {
		t.Errorf("%q %v", got, o)
	}
	for node := range 2 {
		if p, got, e := device.Do(o, node, register); e != api.ErrArg || got != "" || told(p) != told(o) {
			t.Error(node, e, got)
		}
	}
	if _, s := do(t, o, 1, read(0)); s != "p" { // all else goes on
		t.Error(s)
	}
	if o, _ = do(t, o, 0, fence(1<<40-15)); !device.Fenced(o, 1<<40-15) {
		t.Error(o.Fenced)
	}
}

// P6.2, which error goes ahead.

func TestOrderOfErrors(t *testing.T) {
	d := rich()
	for i, x := range []struct {
		node int
		a    api.Act
		e    api.Errno
	}{
		{1, force(9, long), api.ErrArg}, {2, put(9, long), api.ErrArg}, {1, fence(9 * 16), api.ErrArg}, {2, fence(0), api.ErrArg}, {1, api.Act{}, api.ErrArg}, {2, api.Act{Kind: 7}, api.ErrArg},
		{1, force(9, full), api.ErrFenced}, {2, put(9, full), api.ErrFenced}, {1, read(-1), api.ErrFenced}, {2, read(0), api.ErrFenced}, {1, read(0), api.ErrFenced},
		{1, flush, api.ErrFenced}, {2, flush, api.ErrFenced}, {1, fence(48), api.ErrFenced}, {2, fence(65), api.ErrFenced},
		{1, register, api.OK}, {2, register, api.OK}, {0, register, api.OK},
		{0, force(9, full), api.ErrRange}, {0, force(9, long), api.ErrArg}, {0, put(-1, long), api.ErrArg}, {0, read(4), api.ErrRange},
		{0, api.Act{Kind: api.AcForce, Sector: 3, B: "s", Key: -1}, api.OK}, {0, api.Act{Kind: api.AcPut, Sector: 3, B: "s", Key: 1 << 50}, api.OK},
		{0, api.Act{Kind: api.AcFence, Sector: -1, B: long, Key: 99}, api.OK},
	} {
		o, got, e := device.Do(d, x.node, x.a)
		if e != x.e {
			t.Error(i, x.node, x.a.Kind, e, x.e)
		}
		if e != api.OK && (got != "" || told(o) != told(d)) {
			t.Error(i, "changed by an error")
		}
	}
}

func TestKindsThatAreNone(t *testing.T) {
	for _, kind := range []int8{api.AcNone, -1, -2, 7, 8, 127, -128, 64} {
		if o, got, e := device.Do(rich(), 0, api.Act{Kind: kind, B: "z", Key: 48}); e != api.ErrArg || got != "" || told(o) != told(rich()) {
			t.Error(kind, e, got)
		}
	}
}

func TestNodesThatAreNone(t *testing.T) {
	for _, node := range []int{-1, 4, 5, 16, math.MinInt, math.MaxInt, 1 << 32, -1 << 32, 1<<8 + 1} {
		for _, a := range []api.Act{read(0), force(0, "z"), put(0, "z"), flush, fence(48), register} {
			if o, got, e := device.Do(rich(), node, a); e != api.ErrArg || got != "" || told(o) != told(rich()) {
				t.Error(node, a.Kind, e)
			}
		}
		if o, e := device.Crash(rich(), node, 7); e != api.ErrArg || told(o) != told(rich()) {
			t.Error("crash", node, e)
		}
		if o, e := device.Start(rich(), node); e != api.ErrArg || told(o) != told(rich()) {
			t.Error("start", node, e)
		}
	}
}

func TestDevicesThatMayNotBe(t *testing.T) {
	for name, d := range odd() {
		if may(d) {
			continue
		}
		for _, a := range []api.Act{read(0), read(-1), force(0, "z"), put(0, "z"), flush, fence(48), register, {}} {
			for node := range 5 {
				if o, got, e := device.Do(d, node, a); e != api.ErrArg || got != "" || told(o) != told(d) {
					t.Error(name, node, a.Kind, e)
				}
			}
		}
		if o, e := device.Crash(d, 0, 7); e != api.ErrArg || told(o) != told(d) {
			t.Error("crash", name, e)
		}
		if o, e := device.Start(d, 0); e != api.ErrArg || told(o) != told(d) {
			t.Error("start", name, e)
		}
	}
}

// P6.3.

func TestCrash(t *testing.T) {
	d := fresh(t, 2, []int{0, 1}, "p", "q", "r", "s")
	for _, a := range []api.Act{put(2, "a"), put(0, ""), put(3, "c")} {
		d, _ = do(t, d, 0, a)
	}
	d, _ = do(t, d, 1, put(1, "theirs"))
	for kept, want := range map[uint64]string{0: "p q r s", 1: "p q a s", 2: " q r s", 3: " q a s", 4: "p q r c", 5: "p q a c", 6: " q r c", 7: " q a c", 8: "p q r s", 1 << 63: "p q r s", math.MaxUint64: " q a c", 1<<32 | 4: "p q r c"} {
		o, e := device.Crash(d, 0, kept)
		if e != api.OK || strings.Join(o.S, " ") != want || device.Cached(o, 0) != 0 || device.Check(o) != api.OK {
			t.Error(kept, e, o.S)
		}
		if !slices.Equal(o.Keys, d.Keys) || o.Next != d.Next || !slices.Equal(o.Cache[1], d.Cache[1]) || len(o.Fenced) != 0 {
			t.Error(kept, told(o))
		}
	}
}

func TestCrashOfALongCache(t *testing.T) {
	d := fresh(t, 1, []int{0}, make([]string, 70)...)
	for i := range 70 {
		d, _ = do(t, d, 0, put(69-i, fmt.Sprint(i)))
	}
	for _, kept := range []uint64{math.MaxUint64, 1 << 63, 1 << 62, 1<<63 | 1, 0} {
		o, e := device.Crash(d, 0, kept)
		for i := range 70 {
			want := ""
			if i < 64 && kept>>uint(i)&1 == 1 { // there is no bit for those behind
				want = fmt.Sprint(i)
			}
			if e != api.OK || o.S[69-i] != want {
				t.Error(kept, i, o.S[69-i])
			}
		}
	}
}

func TestCrashOfAnEmptyCache(t *testing.T) {
	d := fresh(t, 1, []int{0}, "p")
	if o, e := device.Crash(d, 0, math.MaxUint64); e != api.OK || told(o) != told(d) {
		t.Error(e, told(o))
	}
}

func TestCrashOfWhoIsOut(t *testing.T) {
	for _, node := range []int{1, 2} { // fenced, and without a key
		o, e := device.Crash(rich(), node, math.MaxUint64)
		want := rich()
		want.Cache[node] = nil
		if e != api.OK || told(o) != told(want) {
			t.Error(node, e, told(o))
		}
	}
}

func TestStart(t *testing.T) {
	for node := range 4 {
		want := rich()
		want.Cache[node], want.Keys[node] = nil, 0
		o, e := device.Start(rich(), node)
		if e != api.OK || told(o) != told(want) || device.Check(o) != api.OK {
			t.Error(node, e, told(o))
		}
		if _, _, e := device.Do(o, node, read(0)); e != api.ErrFenced {
			t.Error(node, e)
		}
	}
}

// P6.4.

func TestFencedChangesNothing(t *testing.T) {
	d := fresh(t, 2, []int{0, 1}, "p", "q")
	d, _ = do(t, d, 0, force(1, "forced"))
	d, _ = do(t, d, 0, put(0, "late"))
	d, _ = do(t, d, 1, fence(16))
	stands := slices.Clone(d.S)
	step := func(d api.Device) []api.Device {
		var l []api.Device
		for _, a := range []api.Act{read(0), force(0, "z"), put(0, "z"), put(1, "z"), flush, fence(33), {Kind: 9}} {
			o, _, _ := device.Do(d, 0, a)
			l = append(l, o)
		}
		c, _ := device.Crash(d, 0, math.MaxUint64)
		s, _ := device.Start(d, 0)
		return append(l, c, s)
	}
	for _, one := range step(d) {
		for _, two := range step(one) {
			for _, o := range append(step(two), two) {
				if !slices.Equal(o.S, stands) || device.Fenced(o, 33) {
					t.Fatal(told(o))
				}
				anew, _ := do(t, o, 0, register) // then it acts as all do
				anew, _ = do(t, anew, 0, force(0, "z"))
				if anew.S[0] != "z" || anew.S[1] != "forced" || !device.Fenced(anew, 16) || device.Fenced(anew, anew.Keys[0]) {
					t.Fatal(told(anew))
				}
			}
		}
	}
}

func TestRegisterAnewBringsNothingBack(t *testing.T) {
	d := fresh(t, 2, []int{0, 1}, "p")
	d, _ = do(t, d, 0, put(0, "late"))
	d, _ = do(t, d, 1, fence(16))
	d, _ = do(t, d, 0, register)
	d, _ = do(t, d, 0, flush)
	if _, s := do(t, d, 0, read(0)); d.S[0] != "p" || s != "p" {
		t.Error(told(d))
	}
}

func TestForcedStands(t *testing.T) {
	d := fresh(t, 2, []int{0, 1}, "p", "q")
	d, _ = do(t, d, 0, put(0, "older"))
	d, _ = do(t, d, 0, force(0, "forced"))
	d, _ = do(t, d, 0, flush) // the older bytes are gone
	d, _ = do(t, d, 1, put(0, "theirs"))
	d, _ = do(t, d, 0, put(1, "else"))
	if _, s := do(t, d, 0, read(0)); s != "forced" {
		t.Error(s)
	}
	d, _ = device.Crash(d, 1, 0)
	d, _ = device.Start(d, 0)
	if d.S[0] != "forced" {
		t.Error(told(d))
	}
	d, _ = do(t, d, 1, put(0, "last"))
	d, _ = device.Crash(d, 1, 1)
	if d.S[0] != "last" {
		t.Error(told(d))
	}
}

func TestWhoReadsWhat(t *testing.T) {
	d := fresh(t, 3, []int{2, 0, 1}, "p")
	d, _ = do(t, d, 0, put(0, "a"))
	d, _ = do(t, d, 1, put(0, "b"))
	for node, want := range []string{"a", "b", "p"} {
		if _, s := do(t, d, node, read(0)); s != want {
			t.Error(node, s)
		}
	}
	d, _ = do(t, d, 0, flush)
	for node, want := range []string{"a", "b", "a"} {
		if _, s := do(t, d, node, read(0)); s != want {
			t.Error(node, s)
		}
	}
}

// The chapter's examples.

func TestExamples(t *testing.T) {
	d := fresh(t, 2, []int{0, 1}, "was")
	d, _ = do(t, d, 0, put(0, "a"))
	if o, e := device.Crash(d, 0, 0); e != api.OK || o.S[0] != "was" {
		t.Error(e, o.S)
	}
	d, _ = do(t, d, 1, fence(16))
	if o, e := device.Crash(d, 0, math.MaxUint64); e != api.OK || o.S[0] != "was" {
		t.Error(e, o.S)
	}
}

// P6.2 to P6.4 on long ways, beside the model.

type dice uint64

func (x *dice) below(n int) int {
	*x = *x*6364136223846793005 + 1442695040888963407
	return int(uint64(*x) >> 33 % uint64(n))
}

func (x *dice) act(m *model) api.Act {
	a := api.Act{Kind: int8(x.below(8)), Sector: x.below(len(m.stands)+2) - 1}
	if a.Kind == api.AcRegister && x.below(3) > 0 {
		a.Kind = api.AcPut
	}
	if a.Kind == api.AcFence && x.below(3) > 0 {
		a.Kind = api.AcFlush
	}
	a.B = []string{"", full, long}[x.below(3)]
	if x.below(4) > 0 {
		a.B = fmt.Sprint(x.below(1000))
	}
	a.Key = x.below(16*(m.next+1)) - 3
	return a
}

func (x *dice) walk(t *testing.T, nodes, sectors, steps int) {
	m := newModel(nodes, make([]string, sectors)...)
	d, _ := device.New(nodes, make([]string, sectors)...)
	for i := range steps {
		node := x.below(nodes+2) - 1
		was, before := d, told(d)
		switch x.below(12) {
		case 0:
			kept := uint64(x.below(1 << 10))
			o, e := device.Crash(d, node, kept)
			if want := node < 0 || node >= nodes; want != (e == api.ErrArg) || !want && e != api.OK {
				t.Fatal(i, "crash", node, e)
			}
			if e == api.OK {
				m.crash(node, kept)
			}
			d = o
		case 1:
			o, e := device.Start(d, node)
			if e == api.OK {
				m.nodes[node].forget()
				m.nodes[node].key = 0
			}
			d = o
		default:
			a := x.act(m)
			want := m.refuses(node, a)
			o, got, e := device.Do(d, node, a)
			text := ""
			if want == api.OK {
				text = m.do(node, a)
			}
			if e != want || got != text {
				t.Fatal(i, node, a, e, want, got, text)
			}
			d = o
		}
		if told(was) != before {
			t.Fatal(i, "what was handed in is changed")
		}
		if told(d) != told(m.device()) || device.Check(d) != api.OK || !device.Same(d, m.device()) {
			t.Fatal(i, told(d), told(m.device()))
		}
		for n := range nodes {
			if device.Cached(d, n) != len(m.nodes[n].order) || device.Fenced(d, d.Keys[n]) != m.out(n) {
				t.Fatal(i, n)
			}
		}
	}
}

func TestWalks(t *testing.T) {
	x := dice(7)
	for _, nodes := range []int{1, 2, 3, 16} {
		for _, sectors := range []int{1, 2, 5, 12} {
			for range 4 {
				x.walk(t, nodes, sectors, 400)
			}
		}
	}
}

// R3 and R4.

func TestNothingShared(t *testing.T) {
	var calls []func(api.Device) api.Device
	for _, node := range []int{0, 1, 2, 3, 4, -1} {
		for _, a := range []api.Act{read(0), read(9), force(0, "z"), force(2, "z"), put(0, "z"), put(1, "z"), flush, fence(34), fence(65), fence(99), register, {}} {
			calls = append(calls, func(d api.Device) api.Device { o, _, _ := device.Do(d, node, a); return o })
		}
		for _, kept := range []uint64{0, 1, 3} {
			calls = append(calls, func(d api.Device) api.Device { o, _ := device.Crash(d, node, kept); return o })
		}
		calls = append(calls, func(d api.Device) api.Device { o, _ := device.Start(d, node); return o })
	}
	broken := rich()
	broken.Next = 0
	for i, call := range calls {
		for _, base := range []api.Device{rich(), broken} {
			in := roomy(base)
			before := spare(in)
			one := call(in)
			if spare(in) != before {
				t.Fatal(i, "what was handed in is changed")
			}
			two := call(in)
			if told(one) != told(two) {
				t.Fatal(i, "another answer")
			}
			was := told(two)
			spoil(one)
			if spare(in) != before || told(two) != was {
				t.Fatal(i, "shared")
			}
			spoil(in)
			if told(two) != was {
				t.Fatal(i, "kept")
			}
		}
	}
}

// TestRowsApart asks that no cache's room is another cache's.
func TestRowsApart(t *testing.T) {
	d, _ := do(t, rich(), 0, put(1, "z"))
	was := told(d)
	for i := range d.Cache {
		_ = append(d.Cache[i], api.Cell{Sector: -1}, api.Cell{Sector: -1})
	}
	_ = append(d.Keys, 7)
	_ = append(d.Fenced, 7)
	if told(d) != was {
		t.Error(told(d))
	}
}

func TestAskersChangeNothing(t *testing.T) {
	for _, base := range odd() {
		a, b := roomy(base), roomy(rich())
		wasA, wasB := spare(a), spare(b)
		keys := []int{5, 3, 1}
		device.Same(a, b)
		device.Same(b, a)
		device.Fenced(a, keys...)
		device.Cached(a, 0)
		if spare(a) != wasA || spare(b) != wasB || !slices.Equal(keys, []int{5, 3, 1}) {
			t.Fatal("changed")
		}
	}
}
