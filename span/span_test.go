package span_test

import (
	"math"
	"math/rand"
	"slices"
	"testing"

	"breakwater/api"
	"breakwater/span"
)

const (
	shared = api.ModeShared
	own    = api.ModeOwn
)

// modes are the two, and such as are none.
var modes = []int8{shared, own, 0, 3, 4, 127, -1, -2, -128}

// far are numbers at the ends of the ints, at the limits, and such as a narrower type would take for others.
var far = []int{math.MinInt, math.MinInt + 1, -1 << 62, -1<<32 - 1, -1 << 32, -1 << 31, -257, -256, -65, -64, -2, -1, 0, 1, 2, 62, 63, 64, 65, 255, 256, 257, 1 << 16, 1<<31 - 1, 1 << 31, 1 << 32, 1<<32 + 1, 1<<32 + 3, api.MaxNumber, api.MaxNumber + 1, 1 << 62, math.MaxInt - 1, math.MaxInt}

func of(lo, hi int) api.Span { return api.Span{Lo: lo, Hi: hi} }

func hold(key, lo, hi int, mode int8) api.Hold {
	return api.Hold{Key: key, Span: of(lo, hi), Mode: mode}
}

// spans are all whose ends are from least to most, those with Hi below Lo too.
func spans(least, most int) []api.Span {
	var l []api.Span
	for lo := least; lo <= most; lo++ {
		for hi := least; hi <= most; hi++ {
			l = append(l, of(lo, hi))
		}
	}
	return l
}

// farSpans are all with two of the far numbers for ends.
func farSpans() []api.Span {
	var l []api.Span
	for _, lo := range far {
		for _, hi := range far {
			l = append(l, of(lo, hi))
		}
	}
	return l
}

// holds are those of the keys, spans and modes, each with each.
func holds(keys []int, in []api.Span, modes ...int8) []api.Hold {
	var l []api.Hold
	for _, key := range keys {
		for _, s := range in {
			for _, mode := range modes {
				l = append(l, api.Hold{Key: key, Span: s, Mode: mode})
			}
		}
	}
	return l
}

// The models are the chapter's words, one by one.

func isOf(s api.Span, block int) bool { return !(block < s.Lo) && !(block > s.Hi) }

// overlap goes by the ends: where two spans have blocks in common, one of the four ends is such a block.
func overlap(a, b api.Span) bool {
	for _, block := range []int{a.Lo, a.Hi, b.Lo, b.Hi} {
		if isOf(a, block) && isOf(b, block) {
			return true
		}
	}
	return false
}

func together(a, b api.Hold) bool {
	if a.Key == b.Key {
		return true
	}
	if !overlap(a.Span, b.Span) {
		return true
	}
	return a.Mode == 1 && b.Mode == 1
}

func mayHold(g api.Geo, h api.Hold) bool {
	if h.Key <= 0 || h.Mode != 1 && h.Mode != 2 {
		return false
	}
	return maySpan(g, h.Span)
}

func maySpan(g api.Geo, s api.Span) bool {
	return !(s.Lo < 0) && !(s.Lo > s.Hi) && !(s.Hi >= g.Blocks)
}

func fits(h api.Hold, l ...api.Hold) bool {
	return !slices.ContainsFunc(l, func(x api.Hold) bool { return !together(h, x) })
}

func covers(l []api.Hold, key, block int, mode int8) bool {
	return slices.ContainsFunc(l, func(h api.Hold) bool {
		return h.Key == key && isOf(h.Span, block) && (h.Mode == mode || h.Mode == 2)
	})
}

func touches(l []api.Hold, key int, s api.Span) bool {
	return slices.ContainsFunc(l, func(h api.Hold) bool { return h.Key == key && overlap(h.Span, s) })
}

// all holds each against each, itself and both ways round.
func all(l []api.Hold) bool {
	for _, a := range l {
		for _, b := range l {
			if !together(a, b) {
				return false
			}
		}
	}
	return true
}

// listsAsk asks all that is asked of many, of that list.
func listsAsk(t *testing.T, l []api.Hold, h api.Hold, block int) {
	t.Helper()
	if span.Fits(h, l...) != fits(h, l...) {
		t.Fatalf("Fits %+v in %+v", h, l)
	}
	if span.Covers(l, h.Key, block, h.Mode) != covers(l, h.Key, block, h.Mode) {
		t.Fatalf("Covers %d, %d, %d in %+v", h.Key, block, h.Mode, l)
	}
	if span.Touches(l, h.Key, h.Span) != touches(l, h.Key, h.Span) {
		t.Fatalf("Touches %d, %+v in %+v", h.Key, h.Span, l)
	}
	if span.All(l) != all(l) {
		t.Fatalf("All of %+v", l)
	}
}

func TestNumbersOfTheChapter(t *testing.T) {
	if shared != 1 || own != 2 {
		t.Error(shared, own)
	}
}

// P9.1, May.

func TestMayByHand(t *testing.T) {
	for i, x := range []struct {
		blocks int
		s      api.Span
		is     bool
	}{
		{6, of(0, 5), true}, {6, of(0, 0), true}, {6, of(5, 5), true}, {6, of(2, 3), true},
		{6, of(0, 6), false}, {6, of(5, 6), false}, {6, of(6, 6), false}, {6, of(7, 8), false},
		{6, of(-1, 0), false}, {6, of(-1, 5), false}, {6, of(-2, -1), false}, {6, of(-1, -1), false},
		{6, of(1, 0), false}, {6, of(5, 0), false}, {6, of(0, -1), false}, {6, of(6, 5), false}, {6, of(5, 4), false},
		{1, of(0, 0), true}, {1, of(0, 1), false}, {1, of(1, 1), false},
		{64, of(0, 63), true}, {64, of(63, 63), true}, {64, of(0, 64), false}, {64, of(64, 64), false},
		{0, of(0, 0), false}, {0, of(0, -1), false}, {0, of(-1, -1), false}, {-1, of(0, 0), false}, {-1, of(-3, -2), false}, {-1, of(-2, -2), false},
	} {
		if span.May(api.Geo{Blocks: x.blocks}, x.s) != x.is {
			t.Errorf("%d: %d blocks, %+v", i, x.blocks, x.s)
		}
	}
}

func TestMay(t *testing.T) {
	for blocks := -3; blocks <= 9; blocks++ {
		count := 0
		for _, s := range spans(-4, 11) {
			is := span.May(api.Geo{Blocks: blocks}, s)
			if is != maySpan(api.Geo{Blocks: blocks}, s) {
				t.Fatalf("%d blocks, %+v", blocks, s)
			}
			if is {
				count++
			}
		}
		if n := max(blocks, 0); count != n*(n+1)/2 {
			t.Errorf("%d blocks: %d spans", blocks, count)
		}
	}
}

func TestMayFarOut(t *testing.T) {
	for _, blocks := range far {
		for _, s := range farSpans() {
			if span.May(api.Geo{Blocks: blocks}, s) != maySpan(api.Geo{Blocks: blocks}, s) {
				t.Fatalf("%d blocks, %+v", blocks, s)
			}
		}
	}
}

// Blocks alone counts: of the geometry's other numbers the chapter says nothing.
func TestMayOfOtherNumbers(t *testing.T) {
	for _, n := range far {
		g := api.Geo{Nodes: n, Slots: n, Blocks: 4, Per: n, Journal: n, Log: n, Lease: n, Wait: n}
		if !span.May(g, of(0, 3)) || span.May(g, of(0, 4)) || !span.Hold(g, hold(1, 3, 3, own)) || span.Hold(g, hold(1, 4, 4, own)) {
			t.Errorf("%+v", g)
		}
	}
}

// P9.1, Hold.

func TestHoldByHand(t *testing.T) {
	g := api.Geo{Blocks: 6}
	for i, x := range []struct {
		h  api.Hold
		is bool
	}{
		{hold(1, 0, 5, shared), true}, {hold(1, 0, 5, own), true}, {hold(1, 0, 0, shared), true}, {hold(17, 5, 5, own), true}, {hold(2, 2, 3, shared), true},
		{hold(0, 0, 5, shared), false}, {hold(0, 0, 0, own), false}, {hold(-1, 0, 5, shared), false}, {hold(-1, 0, 0, own), false}, {hold(-17, 2, 3, own), false},
		{hold(1, 0, 6, shared), false}, {hold(1, -1, 5, own), false}, {hold(1, 6, 6, own), false}, {hold(1, 3, 2, shared), false}, {hold(1, 3, 2, own), false},
		{hold(1, 0, 5, 0), false}, {hold(1, 0, 5, 3), false}, {hold(1, 0, 5, -1), false}, {hold(1, 0, 5, -2), false}, {hold(1, 0, 5, 127), false}, {hold(1, 0, 5, -128), false},
		{hold(api.MaxNumber, 0, 5, shared), true}, {hold(api.MaxNumber+1, 0, 5, own), true}, {hold(math.MaxInt, 0, 5, shared), true}, {hold(math.MinInt, 0, 5, shared), false},
		{api.Hold{}, false},
	} {
		if span.Hold(g, x.h) != x.is {
			t.Errorf("%d: %+v", i, x.h)
		}
	}
	for _, blocks := range []int{0, -1, -6, math.MinInt} {
		for _, h := range []api.Hold{hold(1, 0, 0, shared), hold(1, 0, -1, own), hold(1, -2, -2, own), hold(1, -8, -7, shared)} {
			if span.Hold(api.Geo{Blocks: blocks}, h) {
				t.Errorf("%d blocks, %+v", blocks, h)
			}
		}
	}
}

func TestHold(t *testing.T) {
	for _, blocks := range []int{-1, 0, 1, 2, 5} {
		for _, h := range holds([]int{-17, -1, 0, 1, 2, 16, 17}, spans(-2, 6), modes...) {
			if g := (api.Geo{Blocks: blocks}); span.Hold(g, h) != mayHold(g, h) {
				t.Fatalf("%d blocks, %+v", blocks, h)
			}
		}
	}
}

func TestHoldOfEachMode(t *testing.T) {
	for mode := math.MinInt8; mode <= math.MaxInt8; mode++ {
		if span.Hold(api.Geo{Blocks: 2}, hold(1, 0, 1, int8(mode))) != (mode == 1 || mode == 2) {
			t.Error(mode)
		}
	}
}

func TestHoldOfFarKeys(t *testing.T) {
	for _, key := range far {
		if span.Hold(api.Geo{Blocks: 2}, hold(key, 0, 1, own)) != (key > 0) {
			t.Error(key)
		}
	}
}

// P9.1, Overlap.

func TestOverlapByHand(t *testing.T) {
	for i, x := range []struct {
		a, b api.Span
		is   bool
	}{
		{of(0, 3), of(3, 5), true}, {of(0, 2), of(3, 5), false}, {of(0, 1), of(3, 5), false}, {of(0, 4), of(3, 5), true},
		{of(0, 5), of(2, 3), true}, {of(0, 5), of(0, 2), true}, {of(0, 5), of(3, 5), true}, {of(1, 4), of(1, 4), true},
		{of(2, 2), of(2, 2), true}, {of(2, 2), of(3, 3), false}, {of(2, 2), of(0, 5), true}, {of(2, 2), of(2, 5), true}, {of(2, 2), of(0, 2), true}, {of(2, 2), of(3, 5), false}, {of(2, 2), of(0, 1), false},
		{of(0, 0), of(0, 0), true}, {of(0, 0), of(1, 1), false}, {of(0, 0), of(0, 5), true}, {of(0, 0), of(1, 5), false},
		{of(3, 2), of(0, 5), false}, {of(5, 0), of(0, 5), false}, {of(5, 0), of(2, 3), false}, {of(5, 0), of(5, 0), false}, {of(3, 2), of(3, 2), false}, {of(3, 2), of(2, 3), false}, {of(3, 2), of(2, 2), false}, {of(3, 2), of(3, 3), false}, {of(5, 0), of(4, 1), false}, {of(0, -1), of(-1, 0), false},
		{of(-3, -1), of(-1, 2), true}, {of(-3, -1), of(0, 2), false}, {of(-3, 5), of(0, 0), true}, {of(-1, -1), of(-1, -1), true},
	} {
		if span.Overlap(x.a, x.b) != x.is || span.Overlap(x.b, x.a) != x.is {
			t.Errorf("%d: %+v, %+v", i, x.a, x.b)
		}
	}
}

// shareOne walks from block to block.
func shareOne(a, b api.Span) bool {
	for x := a.Lo; x <= a.Hi; x++ {
		for y := b.Lo; y <= b.Hi; y++ {
			if x == y {
				return true
			}
		}
	}
	return false
}

func TestOverlap(t *testing.T) {
	l := spans(-2, 6)
	for _, a := range l {
		for _, b := range l {
			if span.Overlap(a, b) != shareOne(a, b) || overlap(a, b) != shareOne(a, b) {
				t.Fatalf("%+v, %+v", a, b)
			}
		}
	}
}

func TestOverlapFarOut(t *testing.T) {
	l := farSpans()
	for _, a := range l {
		for _, b := range l {
			if span.Overlap(a, b) != overlap(a, b) {
				t.Fatalf("%+v, %+v", a, b)
			}
		}
	}
}

// P9.1, Together.

func TestTogetherByHand(t *testing.T) {
	for i, x := range []struct {
		a, b api.Hold
		is   bool
	}{
		{hold(1, 0, 3, shared), hold(2, 3, 5, shared), true}, // the chapter's table
		{hold(1, 0, 3, own), hold(2, 3, 5, shared), false},
		{hold(1, 0, 3, shared), hold(2, 3, 5, own), false}, {hold(1, 0, 3, own), hold(2, 3, 5, own), false},
		{hold(1, 0, 2, own), hold(2, 3, 5, own), true}, {hold(1, 0, 2, shared), hold(2, 3, 5, own), true}, {hold(1, 0, 2, own), hold(2, 3, 5, shared), true},
		{hold(1, 0, 5, own), hold(1, 2, 2, own), true}, {hold(1, 0, 5, own), hold(1, 0, 5, shared), true}, {hold(1, 0, 5, shared), hold(1, 3, 5, own), true}, {hold(1, 0, 5, 0), hold(1, 0, 5, 3), true},
		{hold(1, 0, 5, own), hold(2, 2, 2, own), false}, {hold(1, 0, 5, shared), hold(2, 2, 2, shared), true}, {hold(1, 2, 3, own), hold(2, 2, 3, own), false}, {hold(1, 2, 3, own), hold(2, 2, 3, shared), false},
		{hold(1, 3, 2, own), hold(2, 0, 5, own), true}, {hold(1, 5, 0, own), hold(2, 5, 0, own), true},
		{hold(1, 0, 5, 0), hold(2, 0, 5, 0), false}, {hold(1, 0, 5, 0), hold(2, 0, 5, shared), false}, {hold(1, 0, 5, 3), hold(2, 0, 5, 3), false}, {hold(1, 0, 5, 3), hold(2, 0, 5, shared), false}, {hold(1, 0, 5, -1), hold(2, 0, 5, shared), false}, {hold(1, 0, 2, 0), hold(2, 3, 5, 3), true},
		{hold(0, 0, 5, own), hold(0, 0, 5, own), true}, {hold(-1, 0, 5, own), hold(-1, 0, 5, own), true}, {hold(0, 0, 5, own), hold(1, 0, 5, own), false}, {hold(-1, 0, 5, own), hold(1, 0, 5, own), false},
		{hold(1, 0, 5, own), hold(1<<32+1, 0, 5, own), false}, {hold(17, 0, 5, own), hold(273, 0, 5, own), false},
	} {
		if span.Together(x.a, x.b) != x.is || span.Together(x.b, x.a) != x.is {
			t.Errorf("%d: %+v, %+v", i, x.a, x.b)
		}
	}
}

func TestTogether(t *testing.T) {
	l := holds([]int{-1, 0, 1, 2}, spans(-1, 3), 0, 1, 2, 3)
	for _, a := range l {
		for _, b := range l {
			if span.Together(a, b) != together(a, b) {
				t.Fatalf("%+v, %+v", a, b)
			}
		}
	}
}

func TestTogetherOfEachMode(t *testing.T) {
	for a := math.MinInt8; a <= math.MaxInt8; a++ {
		for b := math.MinInt8; b <= math.MaxInt8; b++ {
			if span.Together(hold(1, 0, 3, int8(a)), hold(2, 3, 5, int8(b))) != (a == 1 && b == 1) {
				t.Fatal(a, b)
			}
		}
	}
}

func TestTogetherFarOut(t *testing.T) {
	l := farSpans()
	for i, a := range l {
		for j, b := range l {
			x := api.Hold{Key: far[i%len(far)], Span: a, Mode: modes[i%len(modes)]}
			y := api.Hold{Key: far[j/len(far)], Span: b, Mode: modes[j%2]}
			if span.Together(x, y) != together(x, y) {
				t.Fatalf("%+v, %+v", x, y)
			}
		}
	}
}

// P9.2.

func TestOfNone(t *testing.T) {
	for _, l := range [][]api.Hold{nil, {}, make([]api.Hold, 0, 9)} {
		for _, h := range holds([]int{0, 1}, spans(-1, 2), modes...) {
			if !span.Fits(h, l...) || !span.All(l) {
				t.Errorf("%+v", h)
			}
			if span.Covers(l, h.Key, h.Span.Lo, h.Mode) || span.Touches(l, h.Key, h.Span) {
				t.Errorf("%+v", h)
			}
		}
	}
	if !span.Fits(hold(1, 0, 5, own)) {
		t.Error("no list at all")
	}
}

func TestOfOne(t *testing.T) {
	for _, h := range holds([]int{-1, 0, 1, 2}, spans(-1, 4), modes...) {
		l := []api.Hold{h}
		if !span.All(l) || !span.Fits(h, h) {
			t.Fatalf("%+v", h)
		}
		for _, x := range holds([]int{0, 1}, spans(0, 3), 0, 1, 2) {
			for block := -2; block <= 5; block++ {
				listsAsk(t, l, x, block)
			}
		}
	}
}

func TestFitsByHand(t *testing.T) {
	l := []api.Hold{hold(1, 0, 2, shared), hold(2, 4, 5, own), hold(3, 2, 3, shared)}
	for i, x := range []struct {
		h  api.Hold
		is bool
	}{
		{hold(4, 0, 3, shared), true}, {hold(4, 0, 0, own), false}, {hold(4, 3, 3, own), false}, {hold(4, 4, 4, shared), false}, {hold(4, 5, 5, own), false}, {hold(4, 0, 4, shared), false}, {hold(4, 6, 9, own), true}, {hold(4, 5, 4, own), true},
		{hold(1, 0, 1, own), true}, {hold(1, 0, 2, own), false}, {hold(1, 0, 5, shared), false}, {hold(1, 0, 3, shared), true}, {hold(2, 3, 5, shared), true}, {hold(2, 3, 5, own), false}, {hold(2, 4, 5, own), true}, {hold(3, 2, 3, own), false}, {hold(3, 3, 3, own), true},
	} {
		if span.Fits(x.h, l...) != x.is {
			t.Errorf("%d: %+v", i, x.h)
		}
	}
	// each place of the list counts, the first, one between, and the last
	wrong := hold(9, 0, 0, own)
	for i := range 5 {
		few := slices.Repeat([]api.Hold{hold(2, 0, 0, shared)}, 5)
		if h := hold(1, 0, 0, shared); !span.Fits(h, few...) {
			t.Error(i)
		}
		few[i] = wrong
		if h := hold(1, 0, 0, shared); span.Fits(h, few...) {
			t.Error(i)
		}
	}
}

func TestCoversByHand(t *testing.T) {
	l := []api.Hold{hold(1, 0, 2, shared), hold(1, 4, 5, own), hold(2, 3, 3, own), hold(3, 7, 6, own), hold(4, 1, 1, 0), hold(5, -2, 0, own)}
	for i, x := range []struct {
		key, block int
		mode       int8
		is         bool
	}{
		{1, 0, shared, true}, {1, 1, shared, true}, {1, 2, shared, true}, {1, 3, shared, false}, {1, -1, shared, false},
		{1, 0, own, false}, {1, 2, own, false}, {1, 3, own, false},
		{1, 4, own, true}, {1, 5, own, true}, {1, 6, own, false}, {1, 4, shared, true}, {1, 5, shared, true}, {1, 6, shared, false},
		{2, 2, own, false}, {2, 3, own, true}, {2, 4, own, false}, {2, 2, shared, false}, {2, 3, shared, true}, {2, 4, shared, false}, {2, 0, shared, false},
		{3, 5, own, false}, {3, 6, own, false}, {3, 7, own, false}, {3, 6, shared, false}, {3, 7, shared, false},
		{4, 1, shared, false}, {4, 1, own, false}, {4, 1, 0, true}, {4, 1, 3, false}, {1, 1, 0, false}, {1, 4, 0, true}, {1, 4, 3, true}, {1, 4, -1, true}, {1, 1, -1, false},
		{5, -2, own, true}, {5, -1, shared, true}, {5, 0, own, true}, {5, -3, shared, false}, {5, 1, own, false},
		{0, 0, shared, false}, {-1, 4, own, false}, {6, 0, shared, false}, {1<<32 + 1, 4, own, false},
	} {
		if span.Covers(l, x.key, x.block, x.mode) != x.is {
			t.Errorf("%d: %+v", i, x)
		}
	}
}

func TestTouchesByHand(t *testing.T) {
	l := []api.Hold{hold(1, 0, 2, shared), hold(1, 5, 6, own), hold(2, 3, 4, own), hold(3, 6, 1, own), hold(4, 2, 2, 0)}
	for i, x := range []struct {
		key int
		s   api.Span
		is  bool
	}{
		{1, of(2, 3), true}, {1, of(3, 3), false}, {1, of(3, 4), false}, {1, of(3, 5), true}, {1, of(0, 0), true}, {1, of(2, 2), true}, {1, of(6, 9), true}, {1, of(7, 9), false}, {1, of(-2, -1), false}, {1, of(-2, 0), true}, {1, of(0, 6), true}, {1, of(1, 1), true}, {1, of(6, 0), false}, {1, of(2, 1), false}, {1, of(0, -1), false},
		{2, of(0, 2), false}, {2, of(0, 3), true}, {2, of(4, 4), true}, {2, of(5, 9), false}, {2, of(3, 4), true}, {2, of(4, 3), false},
		{3, of(0, 9), false}, {3, of(6, 1), false}, {3, of(3, 3), false}, {4, of(2, 2), true}, {4, of(1, 1), false},
		{0, of(0, 9), false}, {-1, of(0, 9), false}, {5, of(0, 9), false}, {1<<32 + 1, of(0, 9), false},
	} {
		if span.Touches(l, x.key, x.s) != x.is {
			t.Errorf("%d: %+v", i, x)
		}
	}
}

func TestAllByHand(t *testing.T) {
	a, b, c := hold(1, 0, 3, shared), hold(2, 3, 5, shared), hold(3, 5, 7, own)
	for i, x := range []struct {
		l  []api.Hold
		is bool
	}{
		{nil, true}, {[]api.Hold{a}, true}, {[]api.Hold{c}, true}, {[]api.Hold{c, c}, true}, {[]api.Hold{a, b}, true}, {[]api.Hold{a, c}, true}, {[]api.Hold{b, c}, false}, {[]api.Hold{c, b}, false},
		{[]api.Hold{a, b, c}, false}, {[]api.Hold{b, a, c}, false}, {[]api.Hold{c, a, b}, false}, {[]api.Hold{c, b, a}, false}, {[]api.Hold{a, a, b, b, a}, true}, {[]api.Hold{c, a, c, a}, true},
		{[]api.Hold{hold(1, 0, 5, own), hold(1, 2, 3, own), hold(1, 2, 2, shared)}, true}, {[]api.Hold{hold(1, 0, 5, own), hold(1, 2, 3, own), hold(2, 2, 2, shared)}, false},
	} {
		if span.All(x.l) != x.is {
			t.Errorf("%d: %+v", i, x.l)
		}
	}
}

// Each two count, wherever they stand: the only two that do not go together may be any.
func TestAllOfEachTwo(t *testing.T) {
	const n = 12
	apart := make([]api.Hold, n)
	for k := range apart {
		apart[k] = hold(k+1, 10*k, 10*k+9, own)
	}
	if !span.All(apart) {
		t.Fatal("apart")
	}
	for i := range n {
		for j := range n {
			l := slices.Clone(apart)
			l[i].Span = l[j].Span
			if span.All(l) != (i == j) {
				t.Fatal(i, j)
			}
			l[i].Key = l[j].Key
			if !span.All(l) {
				t.Fatal(i, j)
			}
		}
	}
}

// Lists of any holds, as chance has it, but the same at each run.
func TestOfMany(t *testing.T) {
	r := rand.New(rand.NewSource(9))
	one := func() api.Hold {
		lo := r.Intn(10) - 1
		return hold(r.Intn(4), lo, lo+r.Intn(5)-1, int8(r.Intn(4)))
	}
	yes := 0
	for range 20000 {
		l := make([]api.Hold, r.Intn(6))
		for i := range l {
			l[i] = one()
		}
		listsAsk(t, l, one(), r.Intn(14)-3)
		if span.All(l) {
			yes++
		}
	}
	if yes < 1000 || yes > 19000 {
		t.Error(yes)
	}
}

func TestOfManyFarOut(t *testing.T) {
	r := rand.New(rand.NewSource(99))
	one := func() int { return far[r.Intn(len(far))] }
	for range 20000 {
		l := make([]api.Hold, 1+r.Intn(4))
		for i := range l {
			l[i] = hold(one(), one(), one(), modes[r.Intn(len(modes))])
		}
		h := hold(one(), one(), one(), modes[r.Intn(len(modes))])
		if r.Intn(2) == 0 {
			h.Key = l[0].Key
		}
		listsAsk(t, l, h, one())
	}
}

func TestOfLongLists(t *testing.T) {
	const n = 4096
	l := make([]api.Hold, n)
	for i := range l {
		l[i] = hold(i%7+1, i, i+3, shared)
	}
	h := hold(9, 0, n+3, shared)
	if !span.All(l) || !span.Fits(h, l...) || !span.Covers(l, (n-1)%7+1, n+2, shared) || span.Covers(l, 1, n+9, shared) || !span.Touches(l, (n-1)%7+1, of(n+2, n+9)) || span.Touches(l, 1, of(n+3, n+9)) {
		t.Error("shared")
	}
	l[n-1].Mode = own
	if span.All(l) || span.Fits(h, l...) || !span.Covers(l, (n-1)%7+1, n+2, own) {
		t.Error("own")
	}
}

// P9.3.

// ownAndOther tells whether some block is covered by two keys, by one of them in ModeOwn, by what Covers tells alone.
func ownAndOther(l []api.Hold, keys []int, least, most int) bool {
	for block := least; block <= most; block++ {
		for _, a := range keys {
			for _, b := range keys {
				if a == b || !span.Covers(l, a, block, own) {
					continue
				}
				if slices.ContainsFunc(modes, func(mode int8) bool { return span.Covers(l, b, block, mode) }) {
					return true
				}
			}
		}
	}
	return false
}

// Of holds that may be it goes the other way, too: where All does not hold, such a block is there.
func TestAllMeansExclusive(t *testing.T) {
	keys := []int{1, 2, 3}
	l := slices.DeleteFunc(holds(keys, spans(0, 2), shared, own), func(h api.Hold) bool { return !span.Hold(api.Geo{Blocks: 3}, h) })
	if len(l) != 36 {
		t.Fatal(len(l))
	}
	for _, a := range l {
		for _, b := range l {
			for _, c := range l {
				if m := []api.Hold{a, b, c}; span.All(m) == ownAndOther(m, keys, -1, 3) {
					t.Fatalf("%+v", m)
				}
			}
		}
	}
}

func TestAllMeansExclusiveOfAnyHolds(t *testing.T) {
	keys := []int{0, 1, 2}
	l := holds(keys, spans(-1, 1), 0, 1, 2, 3)
	for _, a := range l {
		for _, b := range l {
			if m := []api.Hold{a, b}; span.All(m) && ownAndOther(m, keys, -2, 2) {
				t.Fatalf("%+v", m)
			}
		}
	}
}

func TestEitherWay(t *testing.T) {
	l := holds([]int{1, 2}, append(spans(-1, 2), farSpans()[:60]...), modes[:4]...)
	for _, a := range l {
		for _, b := range l {
			if span.Overlap(a.Span, b.Span) != span.Overlap(b.Span, a.Span) || span.Together(a, b) != span.Together(b, a) {
				t.Fatalf("%+v, %+v", a, b)
			}
		}
	}
}

// R1, R3 and R4.

func TestFarArguments(t *testing.T) {
	for _, a := range far {
		for _, b := range far {
			for _, mode := range []int8{0, 1, 2, 127, -128} {
				h := hold(a, b, a, mode)
				l := []api.Hold{h, hold(b, a, b, mode), {}, hold(a, a, a, own), hold(b, math.MinInt, math.MaxInt, mode)}
				if g := (api.Geo{Blocks: b}); span.May(g, of(a, b)) != maySpan(g, of(a, b)) || span.Hold(g, l[1]) != mayHold(g, l[1]) {
					t.Fatal(a, b, mode)
				}
				listsAsk(t, l, h, a)
				listsAsk(t, l, l[1], b)
				listsAsk(t, nil, h, b)
			}
		}
	}
}

// What is called between two calls is not to be told from the second one's answer.
func TestNothingKept(t *testing.T) {
	g := api.Geo{Blocks: 6}
	h, l := hold(2, 3, 5, shared), []api.Hold{hold(1, 0, 3, shared), hold(3, 4, 4, own)}
	ask := func() []bool {
		return []bool{span.May(g, h.Span), span.Hold(g, h), span.Overlap(h.Span, l[0].Span), span.Together(h, l[0]), span.Together(h, l[1]), span.Fits(h), span.Fits(h, l...), span.Covers(l, 1, 3, shared), span.Covers(l, 1, 3, own), span.Touches(l, 3, of(4, 9)), span.All(l), span.All(append(l, h))}
	}
	was := ask()
	if !slices.Equal(was, []bool{true, true, true, true, false, true, false, true, false, true, true, false}) {
		t.Fatal(was)
	}
	for _, x := range holds(far, farSpans()[:40], own, 0) {
		span.Hold(api.Geo{Blocks: x.Key}, x)
		span.Fits(x, x, h)
		span.Covers([]api.Hold{x, h}, h.Key, 3, x.Mode)
		span.Touches([]api.Hold{x}, h.Key, h.Span)
		span.All([]api.Hold{h, x})
	}
	if !slices.Equal(ask(), was) {
		t.Error(ask(), was)
	}
}

func TestHandedInUnchanged(t *testing.T) {
	room := []api.Hold{hold(3, 5, 9, own), hold(1, 0, 2, shared), hold(2, 2, 4, shared), hold(2, 7, 6, own), hold(0, 1, 1, 3), hold(9, 0, 9, own), hold(8, 0, 9, own)}
	was := slices.Clone(room)
	for from := range room {
		for end := from; end <= len(room); end++ {
			l := room[from:end] // with the others in the room behind it
			for _, h := range was {
				listsAsk(t, l, h, h.Span.Lo)
				listsAsk(t, room[from:end:end], h, h.Span.Hi)
				if !slices.Equal(room, was) {
					t.Fatalf("%d to %d: %+v", from, end, room)
				}
			}
		}
	}
}
