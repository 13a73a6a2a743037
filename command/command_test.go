package command_test

import (
	"math"
	"slices"
	"strings"
	"testing"

	"breakwater/api"
	"breakwater/ballot"
	"breakwater/command"
)

// The kinds as the chapter's order numbers them.
const (
	mount int8 = iota
	leave
	ask
	free
	claim
	purge
)

const (
	shared int8 = 1
	own    int8 = 2
)

// maxKey is the greatest number that may be a key: MaxNumber, which is node 0's.
const maxKey = 1 << 40

// keys, serials are those that a command may have: at the ends, and where one byte more is needed.
var (
	keys    = []int{16, 17, 31, 32, 33, 255, 256, 257, 65535, 65536, 1<<24 + 5, 1<<32 - 1, 1 << 32, 0x0102030405, maxKey - 16, maxKey - 1, maxKey}
	serials = []int{1, 2, 255, 256, 257, 65535, 65536, 1<<24 - 1, 1 << 24, 0x01020304, 1<<31 - 1, 1 << 31}
)

// noKeys, noSerials are beside these, and such as a narrower type or the bytes alone would take for one.
var (
	noKeys    = []int{0, 1, 2, 14, 15, -1, -15, -16, -17, -32, maxKey + 1, maxKey + 2, maxKey + 16, 1 << 41, 1<<48 - 1, 1 << 48, 1<<48 + 17, 1 << 62, -1 << 32, -1 << 40, 16 - 1<<48, math.MaxInt, math.MaxInt - 1, math.MinInt, math.MinInt + 1, math.MinInt + 17}
	noSerials = []int{0, -1, -2, -255, 1<<31 + 1, 1<<31 + 2, 1<<32 - 1, 1 << 32, 1<<32 + 1, 1 << 40, 1<<40 + 1, 1 << 62, -1 << 31, 1 - 1<<31, 1 - 1<<32, math.MaxInt, math.MaxInt - 1, math.MinInt, math.MinInt + 1}
)

// blocks are those that a span may have, noBlocks beside them.
var (
	blocks   = []int{0, 1, 2, 31, 62, 63}
	noBlocks = []int{64, 65, 127, 128, 255, 256, 257, 512, 1<<32 + 1, -1, -2, -63, -64, -255, -256, 1 << 62, math.MaxInt, math.MinInt, math.MinInt + 1}
)

var noModes = []int8{0, 3, 4, 16, 127, -1, -2, -126, -127, -128}

// sizes are how many bytes a command of each kind has.
var sizes = [...]int{mount: 11, leave: 11, ask: 14, free: 13, claim: 23, purge: 17}

func span(lo, hi int) api.Span { return api.Span{Lo: lo, Hi: hi} }

// The models are the chapter's words, one by one.

func isKey(n int) bool {
	node := n % 16
	return n > 0 && (n-node)/16 >= 1 && n <= maxKey
}

func isSpan(s api.Span) bool { return !(s.Lo < 0) && !(s.Lo > s.Hi) && !(s.Hi >= 64) }

func may(c api.Cmd) bool {
	if !isKey(c.By) || c.Serial <= 0 || c.Serial > 1<<31 {
		return false
	}
	none := api.Cmd{Kind: c.Kind, By: c.By, Serial: c.Serial} // and what the kind names, taken over as it is
	switch c.Kind {
	case mount, leave:
		return c == none
	case ask:
		none.Span, none.Mode = c.Span, c.Mode
		return c == none && isSpan(c.Span) && (c.Mode == 1 || c.Mode == 2)
	case free:
		none.Span = c.Span
		return c == none && isSpan(c.Span)
	case claim:
		none.Dead, none.Was = c.Dead, c.Was
		return c == none && isKey(c.Dead) && (c.Was == 0 || isKey(c.Was))
	case purge:
		none.Dead = c.Dead
		return c == none && isKey(c.Dead)
	}
	return false
}

// bytesOf tells a number's bytes by division alone.
func bytesOf(n, width int) string {
	b := make([]byte, 0, width)
	for range width {
		b = append(b, byte(n%256))
		n /= 256
	}
	return string(b)
}

// textOf is the bytes by the chapter's words, of any numbers that these can tell.
func textOf(c api.Cmd) string {
	s := bytesOf(int(uint8(c.Kind)), 1) + bytesOf(c.By, 6) + bytesOf(c.Serial, 4)
	switch c.Kind {
	case ask:
		return s + bytesOf(c.Span.Lo, 1) + bytesOf(c.Span.Hi, 1) + bytesOf(int(uint8(c.Mode)), 1)
	case free:
		return s + bytesOf(c.Span.Lo, 1) + bytesOf(c.Span.Hi, 1)
	case claim:
		return s + bytesOf(c.Dead, 6) + bytesOf(c.Was, 6)
	case purge:
		return s + bytesOf(c.Dead, 6)
	}
	return s
}

func numberOf(s string) int {
	n := 0
	for i := len(s) - 1; i >= 0; i-- {
		n = n*256 + int(s[i])
	}
	return n
}

// readOf is the command whose bytes s are, if there is one.
func readOf(s string) (api.Cmd, bool) {
	if s == "" || int(s[0]) >= len(sizes) || len(s) != sizes[s[0]] {
		return api.Cmd{}, false
	}
	c := api.Cmd{Kind: int8(s[0]), By: numberOf(s[1:7]), Serial: numberOf(s[7:11])}
	switch c.Kind {
	case ask:
		if s[13] > 127 {
			return api.Cmd{}, false
		}
		c.Span, c.Mode = span(int(s[11]), int(s[12])), int8(s[13])
	case free:
		c.Span = span(int(s[11]), int(s[12]))
	case claim:
		c.Dead, c.Was = numberOf(s[11:17]), numberOf(s[17:23])
	case purge:
		c.Dead = numberOf(s[11:17])
	}
	if !may(c) {
		return api.Cmd{}, false
	}
	return c, true
}

// tails are, of each kind, what may stand behind a name.
func tails() []api.Cmd {
	l := []api.Cmd{{Kind: mount}, {Kind: leave}}
	for _, lo := range blocks {
		for _, hi := range blocks {
			if lo <= hi {
				l = append(l, api.Cmd{Kind: free, Span: span(lo, hi)}, api.Cmd{Kind: ask, Span: span(lo, hi), Mode: shared}, api.Cmd{Kind: ask, Span: span(lo, hi), Mode: own})
			}
		}
	}
	for _, dead := range keys {
		l = append(l, api.Cmd{Kind: purge, Dead: dead}, api.Cmd{Kind: claim, Dead: dead})
		for _, was := range keys {
			l = append(l, api.Cmd{Kind: claim, Dead: dead, Was: was})
		}
	}
	return l
}

// good are commands that may be: of each kind all tails, with all names.
func good() []api.Cmd {
	var l []api.Cmd
	for _, c := range tails() {
		for _, by := range keys {
			for _, serial := range serials {
				c.By, c.Serial = by, serial
				l = append(l, c)
			}
		}
	}
	return l
}

// some are one or two commands of each kind that may be.
func some() []api.Cmd {
	return []api.Cmd{
		{Kind: mount, By: 16, Serial: 1}, {Kind: mount, By: maxKey, Serial: 1 << 31},
		{Kind: leave, By: 33, Serial: 258}, {Kind: leave, By: 31, Serial: 2},
		{Kind: ask, By: 17, Serial: 3, Span: span(0, 63), Mode: own}, {Kind: ask, By: 17, Serial: 3, Mode: shared},
		{Kind: free, By: 17, Serial: 1, Span: span(2, 3)}, {Kind: free, By: 32, Serial: 7},
		{Kind: claim, By: 17, Serial: 5, Dead: 16, Was: 33}, {Kind: claim, By: 17, Serial: 5, Dead: 16},
		{Kind: purge, By: 17, Serial: 6, Dead: 16}, {Kind: purge, By: 257, Serial: 1 << 24, Dead: maxKey},
	}
}

// bad are commands that may not be, each for one thing alone.
func bad() []api.Cmd {
	var l []api.Cmd
	add := func(c api.Cmd, change func(c *api.Cmd)) {
		change(&c)
		l = append(l, c)
	}
	for _, c := range some() {
		for _, kind := range []int8{6, 7, 16, 127, -1, -2, -122, -123, -124, -125, -126, -127, -128} {
			add(c, func(c *api.Cmd) { c.Kind = kind })
		}
		for _, n := range noKeys {
			add(c, func(c *api.Cmd) { c.By = n })
		}
		for _, n := range noSerials {
			add(c, func(c *api.Cmd) { c.Serial = n })
		}
		spans, modes, deads, wases := []api.Span{{Lo: 1}, {Hi: 1}, {Lo: 2, Hi: 3}, {Lo: 63, Hi: 63}, {Lo: -1}, {Hi: -1}, {Lo: math.MinInt, Hi: math.MaxInt}}, []int8{1, 2, 3, -1, 127, -128}, slices.Concat(keys, noKeys), slices.Concat(keys, noKeys)
		switch c.Kind {
		case ask, free:
			spans = []api.Span{{Lo: 1}, {Lo: 63, Hi: 62}, {Lo: 63}, {Lo: 64, Hi: 64}, {Lo: 64, Hi: 63}}
			for _, n := range noBlocks {
				spans = append(spans, span(n, n), span(0, n), span(63, n))
				if n != 64 {
					spans = append(spans, span(n, 63), span(n, 64))
				}
			}
			if c.Kind == ask {
				modes = noModes
			}
		case claim:
			deads, wases = noKeys, noKeys[1:] // but 0, which is nobody's
		case purge:
			deads = noKeys
		}
		for _, s := range spans {
			add(c, func(c *api.Cmd) { c.Span = s })
		}
		for _, m := range modes {
			add(c, func(c *api.Cmd) { c.Mode = m })
		}
		for _, n := range deads {
			if n != 0 || c.Kind == claim || c.Kind == purge {
				add(c, func(c *api.Cmd) { c.Dead = n })
			}
		}
		for _, n := range wases {
			if n != 0 {
				add(c, func(c *api.Cmd) { c.Was = n })
			}
		}
	}
	return l
}

// told are the texts of those bad ones whose numbers the bytes could tell, and of which no other command's bytes come.
func told() []string {
	var l []string
	for _, c := range bad() {
		if min(c.By, c.Serial, c.Span.Lo, c.Span.Hi, c.Dead, c.Was) < 0 || max(c.By, c.Dead, c.Was) >= 1<<48 || c.Serial >= 1<<32 || max(c.Span.Lo, c.Span.Hi) > 255 {
			continue
		}
		s := textOf(c)
		if _, ok := readOf(s); !ok { // what a kind does not name, its bytes do not tell
			l = append(l, s)
		}
	}
	return l
}

// none are no command's bytes: those of others that a cut or a byte more may come to are left out.
func none() []string {
	l := told()
	for _, c := range some() {
		s := textOf(c)
		for i := range s {
			l = append(l, s[:i], s[i:], s[:i]+s[i+1:])
		}
		for x := range 256 {
			b := string([]byte{byte(x)})
			l = append(l, s+b, b+s, b+s[1:])
		}
		l = append(l, s+s, s+"xy", s+strings.Repeat("\x00", 30), s+strings.Repeat("\x00", 256), s+strings.Repeat("\x00", 65536))
	}
	for kind := range 256 {
		for size := range 40 { // all zero behind the kind: no key
			l = append(l, string([]byte{byte(kind)})+strings.Repeat("\x00", size), string([]byte{byte(kind)})+strings.Repeat("\xff", size))
		}
	}
	l = append(l, "", "abc", strings.Repeat("\x00", 1<<20), strings.Repeat("\xff", api.SectorSize))
	return slices.DeleteFunc(l, func(s string) bool { _, ok := readOf(s); return ok })
}

func TestNumbersOfTheChapter(t *testing.T) {
	if api.OK != 0 || api.ErrArg != 2 || api.ErrCode != 100 || api.MaxNodes != 16 || api.MaxBlocks != 64 || api.MaxNumber != maxKey || api.ModeShared != shared || api.ModeOwn != own {
		t.Error(api.OK, api.ErrArg, api.ErrCode, api.MaxNodes, api.MaxBlocks, api.MaxNumber, api.ModeShared, api.ModeOwn)
	}
	if api.CmMount != mount || api.CmLeave != leave || api.CmAsk != ask || api.CmFree != free || api.CmClaim != claim || api.CmPurge != purge {
		t.Error(api.CmMount, api.CmLeave, api.CmAsk, api.CmFree, api.CmClaim, api.CmPurge)
	}
}

// P10.1, Key and Of.

func TestKeyByHand(t *testing.T) {
	for _, x := range []struct{ key, node int }{
		{15, -1}, {16, 0}, {17, 1}, {31, 15}, {32, 0}, {33, 1}, {35, 3}, {47, 15}, {1<<40 - 16, 0}, {1<<40 - 1, 15}, {1 << 40, 0},
		{0, -1}, {1, -1}, {-1, -1}, {-15, -1}, {-16, -1}, {-17, -1}, {-1 << 40, -1}, {1<<40 + 1, -1}, {1<<40 + 16, -1}, {1 << 48, -1}, {1<<48 + 17, -1},
		{math.MaxInt, -1}, {math.MaxInt - 15, -1}, {math.MinInt, -1}, {math.MinInt + 16, -1},
	} {
		if command.Of(x.key) != x.node || command.Key(x.key) != (x.node != -1) {
			t.Errorf("%d: %v, node %d", x.key, command.Key(x.key), command.Of(x.key))
		}
	}
}

// Each number near the beginning and near the end is a key just where some node has it.
func TestKeyOfEachNumber(t *testing.T) {
	whose := map[int]int{}
	for node := range 16 {
		for n := 1; n <= 70; n++ {
			whose[16*n+node] = node
			if last := 1<<40 - 16*(n-1) + node; last <= 1<<40 {
				whose[last] = node
			}
		}
	}
	for n := -1000; n <= 1000; n++ {
		for _, key := range []int{n, 1<<40 + n} {
			node, is := whose[key]
			if !is {
				node = -1
			}
			if command.Key(key) != is || command.Of(key) != node {
				t.Fatalf("%d: %v, node %d, not %d", key, command.Key(key), command.Of(key), node)
			}
		}
	}
}

func TestKeyFarOut(t *testing.T) {
	for _, n := range keys {
		if !command.Key(n) || command.Of(n) != n-n/16*16 {
			t.Error(n, command.Of(n))
		}
	}
	for _, n := range slices.Concat(noKeys, []int{1 << 53, 1 << 60, -1 << 62, -1 << 8, math.MaxInt - 20}) {
		if command.Key(n) || command.Of(n) != -1 {
			t.Error(n, command.Of(n))
		}
	}
}

// P10.1, May.

func TestMayByHand(t *testing.T) {
	for i, x := range []struct {
		c  api.Cmd
		is bool
	}{
		{api.Cmd{}, false}, {api.Cmd{By: 16}, false}, {api.Cmd{Serial: 1}, false}, {api.Cmd{By: 16, Serial: 1}, true}, {api.Cmd{By: 15, Serial: 1}, false},
		{api.Cmd{By: 1 << 40, Serial: 1}, true}, {api.Cmd{By: 1<<40 + 1, Serial: 1}, false}, {api.Cmd{By: 16, Serial: -1}, false}, {api.Cmd{By: 16, Serial: 1 << 31}, true}, {api.Cmd{By: 16, Serial: 1<<31 + 1}, false},
		{api.Cmd{Kind: leave, By: 16, Serial: 1}, true}, {api.Cmd{Kind: -1, By: 16, Serial: 1}, false}, {api.Cmd{Kind: 6, By: 16, Serial: 1}, false}, {api.Cmd{Kind: 6, By: 16, Serial: 1, Dead: 16}, false},
		{api.Cmd{By: 16, Serial: 1, Mode: 1}, false}, {api.Cmd{By: 16, Serial: 1, Dead: 16}, false}, {api.Cmd{By: 16, Serial: 1, Was: 16}, false}, {api.Cmd{By: 16, Serial: 1, Span: span(0, 1)}, false}, {api.Cmd{Kind: leave, By: 16, Serial: 1, Dead: 17}, false}, {api.Cmd{Kind: leave, By: 16, Serial: 1, Span: span(1, 0)}, false},
		{api.Cmd{Kind: ask, By: 16, Serial: 1}, false}, {api.Cmd{Kind: ask, By: 16, Serial: 1, Mode: shared}, true}, {api.Cmd{Kind: ask, By: 16, Serial: 1, Mode: own}, true}, {api.Cmd{Kind: ask, By: 16, Serial: 1, Mode: 3}, false}, {api.Cmd{Kind: ask, By: 16, Serial: 1, Mode: -1}, false},
		{api.Cmd{Kind: ask, By: 16, Serial: 1, Mode: own, Span: span(63, 63)}, true}, {api.Cmd{Kind: ask, By: 16, Serial: 1, Mode: own, Span: span(63, 64)}, false}, {api.Cmd{Kind: ask, By: 16, Serial: 1, Mode: own, Span: span(64, 64)}, false}, {api.Cmd{Kind: ask, By: 16, Serial: 1, Mode: own, Span: span(5, 4)}, false}, {api.Cmd{Kind: ask, By: 16, Serial: 1, Mode: own, Span: span(-1, 4)}, false}, {api.Cmd{Kind: ask, By: 16, Serial: 1, Mode: own, Span: span(-2, -1)}, false},
		{api.Cmd{Kind: ask, By: 16, Serial: 1, Mode: own, Dead: 16}, false}, {api.Cmd{Kind: ask, By: 16, Serial: 1, Mode: own, Was: 16}, false},
		{api.Cmd{Kind: free, By: 16, Serial: 1}, true}, {api.Cmd{Kind: free, By: 16, Serial: 1, Span: span(0, 63)}, true}, {api.Cmd{Kind: free, By: 16, Serial: 1, Span: span(0, 64)}, false}, {api.Cmd{Kind: free, By: 16, Serial: 1, Span: span(1, 0)}, false}, {api.Cmd{Kind: free, By: 16, Serial: 1, Span: span(-1, 0)}, false}, {api.Cmd{Kind: free, By: 16, Serial: 1, Mode: own}, false}, {api.Cmd{Kind: free, By: 16, Serial: 1, Dead: 16}, false},
		{api.Cmd{Kind: claim, By: 16, Serial: 1}, false}, {api.Cmd{Kind: claim, By: 16, Serial: 1, Dead: 17}, true}, {api.Cmd{Kind: claim, By: 16, Serial: 1, Dead: 16}, true}, {api.Cmd{Kind: claim, By: 16, Serial: 1, Dead: 15}, false}, {api.Cmd{Kind: claim, By: 16, Serial: 1, Dead: 17, Was: 18}, true}, {api.Cmd{Kind: claim, By: 16, Serial: 1, Dead: 17, Was: 17}, true}, {api.Cmd{Kind: claim, By: 16, Serial: 1, Dead: 17, Was: 15}, false}, {api.Cmd{Kind: claim, By: 16, Serial: 1, Dead: 17, Was: 1}, false}, {api.Cmd{Kind: claim, By: 16, Serial: 1, Dead: 17, Was: -16}, false}, {api.Cmd{Kind: claim, By: 16, Serial: 1, Was: 17}, false}, {api.Cmd{Kind: claim, By: 16, Serial: 1, Dead: 17, Was: 1 << 40}, true}, {api.Cmd{Kind: claim, By: 16, Serial: 1, Dead: 17, Was: 1<<40 + 1}, false}, {api.Cmd{Kind: claim, By: 16, Serial: 1, Dead: 17, Mode: 1}, false}, {api.Cmd{Kind: claim, By: 16, Serial: 1, Dead: 17, Span: span(0, 1)}, false},
		{api.Cmd{Kind: purge, By: 16, Serial: 1}, false}, {api.Cmd{Kind: purge, By: 16, Serial: 1, Dead: 17}, true}, {api.Cmd{Kind: purge, By: 16, Serial: 1, Dead: 1 << 40}, true}, {api.Cmd{Kind: purge, By: 16, Serial: 1, Dead: 1<<40 + 1}, false}, {api.Cmd{Kind: purge, By: 16, Serial: 1, Dead: -17}, false}, {api.Cmd{Kind: purge, By: 16, Serial: 1, Dead: 17, Was: 18}, false}, {api.Cmd{Kind: purge, By: 16, Serial: 1, Dead: 17, Mode: 2}, false}, {api.Cmd{Kind: purge, By: 16, Serial: 1, Dead: 17, Span: span(1, 1)}, false},
	} {
		if command.May(x.c) != x.is {
			t.Errorf("%d: %+v", i, x.c)
		}
	}
}

func TestMayOfTheGoodAndTheBad(t *testing.T) {
	for _, c := range good() {
		if !command.May(c) || !may(c) {
			t.Fatalf("%+v", c)
		}
	}
	for _, c := range bad() {
		if command.May(c) || may(c) {
			t.Fatalf("%+v", c)
		}
	}
}

// Of each kind there could be, whatever stands in the fields: what it names, and what it does not.
func TestMayOfEachKind(t *testing.T) {
	spans := []api.Span{{}, {Hi: 63}, {Lo: 63, Hi: 63}, {Hi: 64}, {Lo: 1}, {Lo: -1, Hi: 3}, {Lo: 2, Hi: 3}}
	ints := []int{0, 1, 15, 16, 17, maxKey, maxKey + 1, -16}
	for kind := math.MinInt8; kind <= math.MaxInt8; kind++ {
		for _, by := range []int{15, 16, maxKey, maxKey + 1} {
			for _, s := range spans {
				for _, mode := range []int8{0, 1, 2, 3, -1} {
					for _, dead := range ints {
						for _, was := range ints {
							c := api.Cmd{Kind: int8(kind), By: by, Serial: 1, Span: s, Mode: mode, Dead: dead, Was: was}
							if command.May(c) != may(c) {
								t.Fatalf("%+v", c)
							}
						}
					}
				}
			}
		}
	}
}

func TestMayOfEachSpan(t *testing.T) {
	ends := slices.Concat(blocks, noBlocks)
	for n := -3; n <= 70; n++ {
		ends = append(ends, n)
	}
	for _, lo := range ends {
		for _, hi := range ends {
			is := lo >= 0 && hi >= lo && hi <= 63
			for _, c := range []api.Cmd{{Kind: ask, Mode: shared}, {Kind: ask, Mode: own}, {Kind: free}} {
				c.By, c.Serial, c.Span = 17, 1, span(lo, hi)
				if command.May(c) != is {
					t.Fatalf("%+v", c)
				}
			}
		}
	}
}

// P10.1, Mine.

func TestMine(t *testing.T) {
	all := slices.Concat([]api.Cmd{{}}, some(), bad())
	for _, c := range all {
		if !command.Mine(c, c.By, c.Serial) {
			t.Fatalf("%+v", c)
		}
		for _, by := range []int{c.By + 1, c.By - 1, c.By + 16, c.By + 1<<40, c.By + 1<<48, -c.By - 1, c.Serial + 1<<20} {
			if by != c.By && command.Mine(c, by, c.Serial) {
				t.Fatalf("%+v by %d", c, by)
			}
		}
		for _, serial := range []int{c.Serial + 1, c.Serial - 1, c.Serial + 1<<31, c.Serial + 1<<32, -c.Serial - 1, c.By + 1<<33} {
			if serial != c.Serial && command.Mine(c, c.By, serial) {
				t.Fatalf("%+v, serial %d", c, serial)
			}
		}
		if c.By != c.Serial && command.Mine(c, c.Serial, c.By) {
			t.Fatalf("%+v, the other way about", c)
		}
	}
}

func TestMineOfEach(t *testing.T) {
	ints := slices.Concat(keys, noKeys, serials, noSerials)
	for _, by := range ints {
		for _, serial := range ints {
			for _, kind := range []int8{mount, claim, 6, -1} {
				c := api.Cmd{Kind: kind, By: by, Serial: serial, Dead: 18, Was: 19}
				if !command.Mine(c, by, serial) || command.Mine(c, 18, serial) != (by == 18) || command.Mine(c, by, 18) != (serial == 18) {
					t.Fatalf("%+v", c)
				}
			}
		}
	}
}

// P10.1, Last.

func lastIs(t *testing.T, want, by int, l ...api.Cmd) {
	t.Helper()
	if n := command.Last(by, l...); n != want {
		t.Fatalf("Last(%d, %+v): %d, not %d", by, l[:min(len(l), 9)], n, want)
	}
}

func cmd(by, serial int) api.Cmd { return api.Cmd{Kind: leave, By: by, Serial: serial} }

func TestLastByHand(t *testing.T) {
	lastIs(t, 0, 17)
	lastIs(t, 0, 17, []api.Cmd{}...)
	lastIs(t, 0, 0)
	lastIs(t, 1, 17, cmd(17, 1))
	lastIs(t, 0, 16, cmd(17, 1))
	lastIs(t, 0, 1, cmd(17, 1))
	lastIs(t, 1<<31, 17, cmd(17, 1<<31))
	lastIs(t, 9, 17, cmd(17, 3), cmd(17, 9), cmd(17, 4))
	lastIs(t, 9, 17, cmd(17, 9), cmd(17, 4))
	lastIs(t, 9, 17, cmd(17, 4), cmd(17, 9))
	lastIs(t, 9, 17, cmd(17, 9), cmd(17, 9))
	lastIs(t, 9, 17, cmd(17, 9), cmd(33, 12), cmd(16, 13))
	lastIs(t, 9, 17, cmd(33, 12), cmd(16, 13), cmd(17, 9))
	lastIs(t, 4, 17, cmd(33, 12), cmd(17, 4), cmd(1<<40, 1<<31))
	lastIs(t, 1<<31, 1<<40, cmd(33, 12), cmd(17, 4), cmd(1<<40, 1<<31))
	lastIs(t, 0, 18, cmd(33, 12), cmd(17, 4), cmd(1<<40, 1<<31))
	lastIs(t, 0, 17, api.Cmd{Kind: claim, By: 16, Serial: 5, Dead: 17, Was: 17}, api.Cmd{Kind: purge, By: 16, Serial: 6, Dead: 17})
}

// Whatever its kind, and whatever it has beside: a command is By whom it names.
func TestLastOfAllKinds(t *testing.T) {
	for i, c := range some() {
		lastIs(t, c.Serial, c.By, c)
		for _, o := range some()[i:] {
			want := c.Serial
			if o.By == c.By {
				want = max(c.Serial, o.Serial)
			}
			lastIs(t, want, c.By, c, o)
			lastIs(t, want, c.By, o, c)
		}
	}
}

// Commands that may not be are taken as they are.
func TestLastOfAnyNumbers(t *testing.T) {
	ints := slices.Concat(serials, noSerials)
	for _, by := range slices.Concat(keys, noKeys) {
		for _, a := range ints {
			lastIs(t, a, by, cmd(by, a))
			lastIs(t, a, by, cmd(by^1, 1<<40), cmd(by, a), cmd(by^16, math.MaxInt))
			lastIs(t, 0, by^2, cmd(by, a))
			for _, b := range ints {
				want := a
				if b > a {
					want = b
				}
				lastIs(t, want, by, cmd(by, a), cmd(by, b))
			}
		}
	}
}

// The greatest counts wherever it stands, however long the list is.
func TestLastOfMany(t *testing.T) {
	l := make([]api.Cmd, 1000)
	for i := range l {
		l[i] = cmd(16+i%3, 1+i*7%500)
	}
	for by := 16; by <= 18; by++ {
		want := 0
		for _, c := range l {
			if c.By == by {
				want = max(want, c.Serial)
			}
		}
		lastIs(t, want, by, l...)
	}
	for _, at := range []int{0, 1, 500, 998, 999} {
		was := l[at]
		l[at] = cmd(19, 1<<20)
		lastIs(t, 1<<20, 19, l...)
		l[at] = was
		lastIs(t, 0, 19, l...)
	}
	lastIs(t, 1<<30, 17, append(slices.Repeat(l, 1000), cmd(17, 1<<30))...)
}

// P10.2, Bytes.

func TestBytesByHand(t *testing.T) {
	for _, x := range []struct {
		c    api.Cmd
		want string
	}{
		{api.Cmd{Kind: free, By: 17, Serial: 1, Span: span(2, 3)}, "\x03" + "\x11\x00\x00\x00\x00\x00" + "\x01\x00\x00\x00" + "\x02" + "\x03"}, // the chapter's example
		{api.Cmd{By: 16, Serial: 1}, "\x00" + "\x10\x00\x00\x00\x00\x00" + "\x01\x00\x00\x00"},
		{api.Cmd{Kind: leave, By: 1 << 40, Serial: 1 << 31}, "\x01" + "\x00\x00\x00\x00\x00\x01" + "\x00\x00\x00\x80"},
		{api.Cmd{Kind: ask, By: 0x0102030405, Serial: 0x0a0b0c0d, Span: span(0, 63), Mode: shared}, "\x02" + "\x05\x04\x03\x02\x01\x00" + "\x0d\x0c\x0b\x0a" + "\x00" + "\x3f" + "\x01"},
		{api.Cmd{Kind: ask, By: 31, Serial: 256, Span: span(7, 7), Mode: own}, "\x02" + "\x1f\x00\x00\x00\x00\x00" + "\x00\x01\x00\x00" + "\x07" + "\x07" + "\x02"},
		{api.Cmd{Kind: claim, By: 17, Serial: 2, Dead: 1<<40 - 1, Was: 33}, "\x04" + "\x11\x00\x00\x00\x00\x00" + "\x02\x00\x00\x00" + "\xff\xff\xff\xff\xff\x00" + "\x21\x00\x00\x00\x00\x00"},
		{api.Cmd{Kind: claim, By: 17, Serial: 2, Dead: 16}, "\x04" + "\x11\x00\x00\x00\x00\x00" + "\x02\x00\x00\x00" + "\x10\x00\x00\x00\x00\x00" + "\x00\x00\x00\x00\x00\x00"},
		{api.Cmd{Kind: purge, By: 17, Serial: 3, Dead: 258}, "\x05" + "\x11\x00\x00\x00\x00\x00" + "\x03\x00\x00\x00" + "\x02\x01\x00\x00\x00\x00"},
	} {
		if s, e := command.Bytes(x.c); e != api.OK || s != x.want {
			t.Errorf("%+v: % x, %d", x.c, s, e)
		}
		if c, e := command.Read(x.want); e != api.OK || c != x.c {
			t.Errorf("% x: %+v, %d", x.want, c, e)
		}
	}
}

func TestBytes(t *testing.T) {
	for _, c := range good() {
		if s, e := command.Bytes(c); e != api.OK || s != textOf(c) || len(s) != sizes[c.Kind] {
			t.Fatalf("%+v: % x, %d", c, s, e)
		}
	}
}

func TestBytesOfEachSpan(t *testing.T) {
	for lo := range 64 {
		for hi := lo; hi < 64; hi++ {
			for _, c := range []api.Cmd{{Kind: ask, Mode: shared}, {Kind: ask, Mode: own}, {Kind: free}} {
				c.By, c.Serial, c.Span = 17, 1, span(lo, hi)
				s, e := command.Bytes(c)
				o, f := command.Read(textOf(c))
				if e != api.OK || s != textOf(c) || f != api.OK || o != c {
					t.Fatalf("%+v: % x, %d, %+v, %d", c, s, e, o, f)
				}
			}
		}
	}
}

func TestBytesRefuses(t *testing.T) {
	for _, c := range append(bad(), api.Cmd{}) {
		if s, e := command.Bytes(c); e != api.ErrArg || s != "" {
			t.Fatalf("%+v: % x, %d", c, s, e)
		}
	}
}

// P10.2, Read.

func TestRead(t *testing.T) {
	for _, c := range good() {
		if o, e := command.Read(textOf(c)); e != api.OK || o != c {
			t.Fatalf("%+v: %+v, %d", c, o, e)
		}
	}
}

func readsNot(t *testing.T, s string) {
	t.Helper()
	if c, e := command.Read(s); e != api.ErrCode || c != (api.Cmd{}) {
		t.Fatalf("%d bytes % x: %+v, %d", len(s), s[:min(len(s), 40)], c, e)
	}
}

func TestReadOfNone(t *testing.T) {
	l := none()
	if len(l) < 10000 {
		t.Fatal(len(l))
	}
	for _, s := range l {
		readsNot(t, s)
	}
}

// Each beginning, and a byte more, whichever it is.
func TestReadOfMoreOrLess(t *testing.T) {
	for _, c := range some() {
		s := textOf(c)
		for i := range s {
			readsNot(t, s[:i])
		}
		for x := range 256 {
			readsNot(t, s+string([]byte{byte(x)}))
		}
	}
}

func TestReadByHand(t *testing.T) {
	const name = "\x11\x00\x00\x00\x00\x00" + "\x01\x00\x00\x00"
	for _, s := range []string{
		"", "\x00", "\x03", name, "\x00" + name[:9], "\x00" + name + "\x00", "\x01" + name + "\x02\x03", "\x06" + name, "\x80" + name, "\xff" + name,
		"\x00" + "\x0f\x00\x00\x00\x00\x00" + "\x01\x00\x00\x00", "\x00" + "\x00\x00\x00\x00\x00\x00" + "\x01\x00\x00\x00", "\x00" + "\x01\x00\x00\x00\x00\x01" + "\x01\x00\x00\x00", "\x00" + "\x11\x00\x00\x00\x00\x80" + "\x01\x00\x00\x00", "\x00" + "\xff\xff\xff\xff\xff\xff" + "\x01\x00\x00\x00",
		"\x00" + "\x11\x00\x00\x00\x00\x00" + "\x00\x00\x00\x00", "\x00" + "\x11\x00\x00\x00\x00\x00" + "\x01\x00\x00\x80", "\x00" + "\x11\x00\x00\x00\x00\x00" + "\xff\xff\xff\xff",
		"\x03" + name, "\x03" + name + "\x02", "\x03" + name + "\x03\x02", "\x03" + name + "\x00\x40", "\x03" + name + "\x40\x40", "\x03" + name + "\x00\xff", "\x03" + name + "\xff\x00", "\x03" + name + "\xff\xff", "\x03" + name + "\x02\x03\x01",
		"\x02" + name + "\x02\x03", "\x02" + name + "\x02\x03\x00", "\x02" + name + "\x02\x03\x03", "\x02" + name + "\x02\x03\x81", "\x02" + name + "\x02\x03\x82", "\x02" + name + "\x02\x03\xff", "\x02" + name + "\x03\x02\x01", "\x02" + name + "\x00\x40\x01",
		"\x05" + name + "\x00\x00\x00\x00\x00\x00", "\x05" + name + "\x0f\x00\x00\x00\x00\x00", "\x05" + name + "\x01\x00\x00\x00\x00\x01", "\x05" + name + "\x10\x00\x00\x00\x00",
		"\x04" + name + "\x10\x00\x00\x00\x00\x00", "\x04" + name + "\x00\x00\x00\x00\x00\x00" + "\x10\x00\x00\x00\x00\x00", "\x04" + name + "\x10\x00\x00\x00\x00\x00" + "\x0f\x00\x00\x00\x00\x00", "\x04" + name + "\x10\x00\x00\x00\x00\x00" + "\x01\x00\x00\x00\x00\x01", "\x04" + name + "\x10\x00\x00\x00\x00\x00" + "\x00\x00\x00\x00\x00\x02", "\x04" + name + "\x10\x00\x00\x00\x00\x00" + "\xff\xff\xff\xff\xff\xff", "\x04" + name + "\x10\x00\x00\x00\x00\x00" + "\x00\x00\x00\x00\x00",
	} {
		readsNot(t, s)
	}
}

// Any one byte, turned into each other one: another command's bytes, if the chapter's words say so, else none.
func TestReadOfOneByteTurned(t *testing.T) {
	read, refused := 0, 0
	for _, c := range some() {
		s := textOf(c)
		for i := range s {
			for x := range 256 {
				b := []byte(s)
				b[i] = byte(x)
				want, ok := readOf(string(b))
				if !ok {
					readsNot(t, string(b))
					refused++
					continue
				}
				o, e := command.Read(string(b))
				if e != api.OK || o != want || (o == c) != (s[i] == byte(x)) {
					t.Fatalf("% x: %+v, %d, not %+v", b, o, e, want)
				}
				read++
			}
		}
	}
	if read < 1000 || refused < 1000 {
		t.Error(read, refused)
	}
}

// Of each kind's byte: behind it bytes that are good numbers, whatever the kind; of just one size they are a command's.
func TestReadOfEachSize(t *testing.T) {
	const behind = "\x11\x00\x00\x00\x00\x00" + "\x01\x00\x00\x00" + "\x01\x03\x02\x00\x00\x00" + "\x10\x00\x00\x00\x00\x00" + "\x00\x00\x00\x00\x00\x00\x00\x00\x00\x00\x00\x00"
	for kind := range 256 {
		for size := range len(behind) + 1 {
			s := string([]byte{byte(kind)}) + behind[:size]
			if kind >= len(sizes) || len(s) != sizes[kind] {
				readsNot(t, s)
			} else if c, e := command.Read(s); e != api.OK || textOf(c) != s || !may(c) {
				t.Fatalf("% x: %+v, %d", s, c, e)
			}
		}
	}
}

// Of texts so long that to go through them would be felt.
func TestLongTexts(t *testing.T) {
	s := textOf(some()[0]) + strings.Repeat("\x00", 1<<26)
	for range 2000 {
		readsNot(t, s)
	}
}

// P10.3.

func TestThereAndBack(t *testing.T) {
	for _, c := range good() {
		s, e := command.Bytes(c)
		o, f := command.Read(s)
		again, g := command.Bytes(o)
		if e != api.OK || f != api.OK || g != api.OK || o != c || again != s {
			t.Fatalf("%+v: %+v, %d, %d, %d", c, o, e, f, g)
		}
	}
}

// Any bytes at all: what is read is written as just these bytes.
func TestBackAndThere(t *testing.T) {
	x, read := uint32(1), 0
	for try := range 200000 {
		size := 11 + try%14
		if try%3 != 0 {
			size = sizes[try%6]
		}
		b := make([]byte, size)
		for i := range b {
			x = x*1664525 + 1013904223
			b[i] = byte(x >> 24)
			if i >= 11 && try%2 == 0 { // else hardly a span or a mode would come
				b[i] &= 3
			}
		}
		b[0] = byte(try % 6)
		b[6] &= 1
		b[10] &= 0x7f
		if size > 16 {
			b[16] = 0
			b[size-1] &= 1
		}
		want, ok := readOf(string(b))
		c, e := command.Read(string(b))
		if ok != (e == api.OK) || c != want {
			t.Fatalf("% x: %+v, %d, not %+v", b, c, e, want)
		}
		if s, f := command.Bytes(c); ok && (f != api.OK || s != string(b)) {
			t.Fatalf("% x: % x, %d", b, s, f)
		}
		if ok {
			read++
		}
	}
	if read < 10000 {
		t.Error(read)
	}
}

// Behind one another in order, one that begins another stands right ahead of one that it begins.
func TestNoneBeginsAnother(t *testing.T) {
	var l []string
	for _, c := range good() {
		s, e := command.Bytes(c)
		if e != api.OK || len(s) > ballot.MostVal || s == "" {
			t.Fatalf("%+v: %d bytes, %d", c, len(s), e)
		}
		l = append(l, s)
	}
	slices.Sort(l)
	for i, s := range l[1:] {
		if strings.HasPrefix(s, l[i]) { // the same bytes, too: unlike commands have unlike ones
			t.Fatalf("% x begins % x", l[i], s)
		}
	}
}

// So they may be a record of ballots' value.
func TestBytesAreValues(t *testing.T) {
	for _, c := range some() {
		s, _ := command.Bytes(c)
		if !ballot.May(api.Rec{Mbal: 16, Bal: 16, Val: s}) {
			t.Errorf("%+v: % x", c, s)
		}
	}
}

// R1, R3 and R4.

func TestFarArguments(t *testing.T) {
	ints := []int{math.MinInt, math.MinInt + 1, -1 << 48, -1 << 32, -17, -16, -1, 0, 1, 15, 16, 17, 63, 64, 1 << 31, 1<<31 + 1, 1 << 32, maxKey, maxKey + 1, 1 << 48, math.MaxInt - 1, math.MaxInt}
	for _, kind := range []int8{math.MinInt8, -1, mount, leave, ask, free, claim, purge, 6, math.MaxInt8} {
		for _, mode := range []int8{math.MinInt8, 0, 1, 2, math.MaxInt8} {
			for _, a := range ints {
				for _, b := range ints {
					for _, c := range []api.Cmd{{By: a, Serial: b}, {By: 16, Serial: 1, Dead: a, Was: b}, {By: 16, Serial: 1, Span: span(a, b)}, {By: a, Serial: a, Dead: a, Was: b, Span: span(a, b)}} {
						c.Kind, c.Mode = kind, mode
						s, e := command.Bytes(c)
						if is := may(c); command.May(c) != is || is != (e == api.OK) || !is && (e != api.ErrArg || s != "") {
							t.Fatalf("%+v: % x, %d", c, s, e)
						}
						if command.Mine(c, a, b) != (c.By == a && c.Serial == b) {
							t.Fatalf("%+v", c)
						}
						lastIs(t, c.Serial, c.By, c, c)
					}
				}
			}
		}
	}
}

// What is called between two calls is not to be told from the second one's answer.
func TestNothingKept(t *testing.T) {
	ask := func() []any {
		l := []any{command.Key(16), command.Of(35), command.Of(0), command.Last(17, some()...), command.Last(17)}
		for _, c := range some() {
			s, e := command.Bytes(c)
			o, f := command.Read(s)
			z, g := command.Read(s[1:])
			l = append(l, s, e, o, f, z, g, command.May(c), command.Mine(c, 17, 5))
		}
		return l
	}
	was := ask()
	for _, s := range none() {
		_, _ = command.Read(s)
	}
	for _, c := range bad() {
		_, _ = command.Bytes(c)
		command.May(c)
		command.Mine(c, c.By, c.Serial)
		command.Last(c.By, c, c)
		command.Of(c.By)
	}
	if !slices.Equal(ask(), was) {
		t.Error(ask(), was)
	}
}

func TestHandedInUnchanged(t *testing.T) {
	room := append(some(), bad()[:20]...)
	was := slices.Clone(room)
	for n := range room {
		command.Last(17, room[:n]...)
		command.Last(16, room[n:]...)
		command.Last(0, room[n:n+1:n+1]...)
	}
	for i, c := range room {
		s, e := command.Bytes(c)
		command.May(c)
		command.Mine(c, 17, 1)
		if c != was[i] || e == api.OK && s != textOf(c) {
			t.Fatalf("%+v, %+v", c, was[i])
		}
	}
	if !slices.Equal(room, was) {
		t.Error(room)
	}
	for _, c := range some() {
		s := textOf(c)
		wasS := strings.Clone(s)
		one, _ := command.Read(s)
		one.By, one.Span.Lo = 99, 99
		if two, e := command.Read(s); s != wasS || e != api.OK || two != c {
			t.Errorf("% x, %+v, %d", s, two, e)
		}
	}
}
