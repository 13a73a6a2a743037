package decided_test

import (
	"encoding/binary"
	"fmt"
	"hash/crc32"
	"math"
	"slices"
	"strings"
	"testing"

	"breakwater/api"
	"breakwater/decided"
)

// The kinds as chapter 10 numbers them.
const (
	mount int8 = iota
	leave
	ask
	free
	claim
	purge
)

// maxKey is the greatest number that may be a key: MaxNumber, which is node 0's.
const maxKey = 1 << 40

// sizes are how many bytes a command of each kind has.
var sizes = [...]int{mount: 11, leave: 11, ask: 14, free: 13, claim: 23, purge: 17}

func span(lo, hi int) api.Span { return api.Span{Lo: lo, Hi: hi} }

// The models are the chapters' words, one by one; nothing that the program does is leant on.

// bytesOf tells a number's bytes by division alone.
func bytesOf(n, width int) string {
	b := make([]byte, 0, width)
	for range width {
		b = append(b, byte(n%256))
		n /= 256
	}
	return string(b)
}

func numberOf(s string) int {
	n := 0
	for i := len(s) - 1; i >= 0; i-- {
		n = n*256 + int(s[i])
	}
	return n
}

// textOf is a command's bytes, of any numbers that these can tell.
func textOf(c api.Cmd) string {
	s := bytesOf(int(uint8(c.Kind)), 1) + bytesOf(c.By, 6) + bytesOf(c.Serial, 4)
	switch c.Kind {
	case ask:
		return s + bytesOf(c.Span.Lo, 1) + bytesOf(c.Span.Hi, 1) + bytesOf(int(uint8(c.Mode)), 1)
	case free:
		return s + bytesOf(c.Span.Lo, 1) + bytesOf(c.Span.Hi, 1)
	case claim:
		return s + bytesOf(c.Dead, 6) + bytesOf(c.Was, 6)
	case purge:
		return s + bytesOf(c.Dead, 6)
	}
	return s
}

func isKey(n int) bool { return n >= 16 && n <= maxKey }

// commandOf is the command whose bytes s are, if there is one.
func commandOf(s string) (api.Cmd, bool) {
	if s == "" || int(s[0]) >= len(sizes) || len(s) != sizes[s[0]] {
		return api.Cmd{}, false
	}
	c := api.Cmd{Kind: int8(s[0]), By: numberOf(s[1:7]), Serial: numberOf(s[7:11])}
	is := isKey(c.By) && c.Serial >= 1 && c.Serial <= 1<<31
	switch c.Kind {
	case ask:
		is = is && (s[13] == 1 || s[13] == 2)
		c.Mode = int8(s[13])
		fallthrough
	case free:
		is = is && s[11] <= s[12] && s[12] < 64
		c.Span = span(int(s[11]), int(s[12]))
	case claim:
		c.Was = numberOf(s[17:23])
		is = is && (c.Was == 0 || isKey(c.Was))
		fallthrough
	case purge:
		c.Dead = numberOf(s[11:17])
		is = is && isKey(c.Dead)
	}
	if !is {
		return api.Cmd{}, false
	}
	return c, true
}

// summed is a text with its sum behind it, as Go's own library has that.
func summed(s string) string {
	sum := crc32.Checksum([]byte(s), crc32.MakeTable(crc32.Castagnoli))
	return string(binary.LittleEndian.AppendUint32([]byte(s), sum))
}

func sealed(kind int, load string) string {
	return summed(string([]byte{byte(kind), byte(len(load)), byte(len(load) >> 8)}) + load)
}

// sectorOf is the decided sector of a command, whether that may be or not.
func sectorOf(c api.Cmd) string { return sealed(5, textOf(c)) }

// loadOf is what a sealed sector of kind 5 keeps, if s is one.
func loadOf(s string) (string, bool) {
	if len(s) < 7 || len(s) > 512 || sealed(5, s[3:len(s)-4]) != s {
		return "", false
	}
	return s[3 : len(s)-4], true
}

// told is all that a sector tells.
type told struct {
	c   api.Cmd
	cmd string
	is  bool
	e   api.Errno
}

func readOf(s string) told {
	if s == "" {
		return told{}
	}
	load, ok := loadOf(s)
	if !ok {
		return told{e: 50}
	}
	c, ok := commandOf(load)
	if !ok {
		return told{e: 50}
	}
	return told{c, load, true, 0}
}

// rowOf goes from the back, so that the first place that stops counts.
func rowOf(sectors ...string) ([]api.Cmd, api.Errno) {
	var l []api.Cmd
	var e api.Errno
	for _, s := range slices.Backward(sectors) {
		switch x := readOf(s); {
		case x.e != 0:
			l, e = nil, 50
		case !x.is:
			l, e = nil, 0
		case e == 0:
			l = slices.Insert(l, 0, x.c)
		}
	}
	return l, e
}

// good are commands that may be: of each kind with each of its numbers at the least, at the greatest, and where one byte more is needed.
func good() []api.Cmd {
	keys := []int{16, 17, 31, 32, 255, 256, 65536, 1<<32 - 1, 1 << 32, 0x0102030405, maxKey - 1, maxKey}
	serials := []int{1, 2, 255, 256, 1 << 24, 0x01020304, 1<<31 - 1, 1 << 31}
	spans := []api.Span{span(0, 0), span(0, 63), span(63, 63), span(2, 3), span(31, 32)}
	var l []api.Cmd
	for _, by := range keys {
		for _, serial := range serials {
			l = append(l, api.Cmd{Kind: mount, By: by, Serial: serial}, api.Cmd{Kind: leave, By: by, Serial: serial})
			for _, s := range spans {
				l = append(l, api.Cmd{Kind: ask, By: by, Serial: serial, Span: s, Mode: 1}, api.Cmd{Kind: ask, By: by, Serial: serial, Span: s, Mode: 2}, api.Cmd{Kind: free, By: by, Serial: serial, Span: s})
			}
			for _, dead := range keys {
				l = append(l, api.Cmd{Kind: purge, By: by, Serial: serial, Dead: dead}, api.Cmd{Kind: claim, By: by, Serial: serial, Dead: dead}, api.Cmd{Kind: claim, By: by, Serial: serial, Dead: dead, Was: by}, api.Cmd{Kind: claim, By: by, Serial: serial, Dead: by, Was: dead})
			}
		}
	}
	return l
}

// some are one or two of each kind.
func some() []api.Cmd {
	return []api.Cmd{
		{Kind: mount, By: 16, Serial: 1}, {Kind: mount, By: maxKey, Serial: 1 << 31},
		{Kind: leave, By: 33, Serial: 258}, {Kind: leave, By: 31, Serial: 2},
		{Kind: ask, By: 17, Serial: 3, Span: span(0, 63), Mode: 2}, {Kind: ask, By: 17, Serial: 3, Mode: 1},
		{Kind: free, By: 17, Serial: 1, Span: span(2, 3)}, {Kind: free, By: 32, Serial: 7},
		{Kind: claim, By: 17, Serial: 5, Dead: 16, Was: 33}, {Kind: claim, By: 17, Serial: 5, Dead: 16},
		{Kind: purge, By: 17, Serial: 6, Dead: 16}, {Kind: purge, By: 257, Serial: 1 << 24, Dead: maxKey},
	}
}

// badTexts are no command's bytes: none, a byte less or more, a command that may not be.
func badTexts() []string {
	l := []string{"", "\x00", "\x05", "abc", strings.Repeat("\x00", 11), strings.Repeat("\xff", 11), strings.Repeat("\x00", 505), strings.Repeat("x", 505)}
	for _, c := range []api.Cmd{
		{}, {By: 15, Serial: 1}, {By: 16}, {By: maxKey + 1, Serial: 1}, {By: 1<<48 - 1, Serial: 1}, {By: 16, Serial: 1<<31 + 1}, {By: 16, Serial: 1<<32 - 1}, {Kind: leave, By: 1, Serial: 1}, {Kind: leave, By: 17},
		{Kind: 6, By: 16, Serial: 1}, {Kind: 127, By: 16, Serial: 1}, {Kind: -1, By: 16, Serial: 1}, {Kind: -128, By: 16, Serial: 1},
		{Kind: ask, By: 16, Serial: 1}, {Kind: ask, By: 16, Serial: 1, Mode: 3}, {Kind: ask, By: 16, Serial: 1, Mode: -1}, {Kind: ask, By: 16, Serial: 1, Mode: 2, Span: span(1, 0)}, {Kind: ask, By: 16, Serial: 1, Mode: 2, Span: span(0, 64)}, {Kind: ask, By: 16, Serial: 1, Mode: 2, Span: span(64, 64)},
		{Kind: free, By: 16, Serial: 1, Span: span(3, 2)}, {Kind: free, By: 16, Serial: 1, Span: span(63, 64)}, {Kind: free, By: 16, Serial: 1, Span: span(255, 255)},
		{Kind: claim, By: 16, Serial: 1}, {Kind: claim, By: 16, Serial: 1, Dead: 15}, {Kind: claim, By: 16, Serial: 1, Dead: 17, Was: 1}, {Kind: claim, By: 16, Serial: 1, Dead: 17, Was: maxKey + 1}, {Kind: claim, By: 16, Serial: 1, Was: 17},
		{Kind: purge, By: 16, Serial: 1}, {Kind: purge, By: 16, Serial: 1, Dead: 15}, {Kind: purge, By: 16, Serial: 1, Dead: maxKey + 1}, {Kind: purge, By: 15, Serial: 1, Dead: 16},
	} {
		l = append(l, textOf(c))
	}
	for _, c := range some() {
		s := textOf(c)
		for i := range s {
			l = append(l, s[:i], s[i+1:], s[:i]+s[i+1:])
		}
		for x := range 256 {
			b := string([]byte{byte(x)})
			l = append(l, s+b, b+s)
		}
		for _, n := range []int{0, 1, 255, 256, 65536} { // a number ahead
			for width := 1; width <= 6; width++ {
				l = append(l, bytesOf(n, width)+s)
			}
		}
		l = append(l, s+s, s+strings.Repeat("\x00", 505-len(s)), strings.Repeat("\x00", 505-len(s))+s, sealed(5, s))
	}
	return slices.DeleteFunc(l, func(s string) bool { _, ok := commandOf(s); return ok })
}

// harmed are texts that differ from s in one bit, in its length, or in a byte beside it; none of them is empty.
func harmed(s string) []string {
	var l []string
	for i := range 8 * len(s) {
		b := []byte(s)
		b[i/8] ^= 1 << (i % 8)
		l = append(l, string(b))
	}
	for i := range s {
		l = append(l, s[i:][1:], s[:i]+s[i+1:], s[:i])
	}
	l = append(l, s+"\x00", "\x00"+s, s+s, s+"x", s+strings.Repeat("\x00", 512-len(s)))
	return slices.DeleteFunc(l, func(x string) bool { return x == "" })
}

// none are neither empty nor decided sectors.
func none() []string {
	l := []string{"x", "\x00", "\x05", "\x05\x00\x00", sealed(5, ""), sealed(0, ""), summed(""), summed("\x05"), strings.Repeat("\x00", 7), strings.Repeat("\x00", 22), strings.Repeat("\x00", 512), strings.Repeat("\xff", 512), strings.Repeat("\x05", 512), strings.Repeat("\x00", 1<<20)}
	for i, c := range some() {
		cmd, s := textOf(c), sectorOf(c)
		for kind := range 256 {
			if kind != 5 {
				l = append(l, sealed(kind, cmd))
			}
		}
		for _, o := range some() {
			l = append(l, s+sectorOf(o))
		}
		l = append(l, cmd, summed(cmd), s[3:], s[:len(s)-4], summed(s), sealed(5, s), s+strings.Repeat("y", 1<<20), strings.Repeat(s, 2+i))
		l = append(l, harmed(s)...)
	}
	for _, cmd := range badTexts() {
		if len(cmd) <= 505 {
			l = append(l, sealed(5, cmd))
		}
	}
	return l
}

func TestNumbersOfTheChapter(t *testing.T) {
	if api.OK != 0 || api.ErrArg != 2 || api.ErrCorrupt != 50 || api.MaxNodes != 16 || api.MaxNumber != maxKey || api.MaxLog != 512 || api.SectorSize != 512 {
		t.Error(api.OK, api.ErrArg, api.ErrCorrupt, api.MaxNodes, api.MaxNumber, api.MaxLog, api.SectorSize)
	}
	if api.CmMount != mount || api.CmLeave != leave || api.CmAsk != ask || api.CmFree != free || api.CmClaim != claim || api.CmPurge != purge {
		t.Error(api.CmMount, api.CmLeave, api.CmAsk, api.CmFree, api.CmClaim, api.CmPurge)
	}
}

// P12.1, Bytes.

func TestByHand(t *testing.T) {
	const zeros = "\x00\x00\x00\x00\x00"
	for _, x := range []struct {
		c         api.Cmd
		cmd, want string
	}{
		{api.Cmd{Kind: free, By: 17, Serial: 1, Span: span(2, 3)}, "\x03\x11" + zeros + "\x01\x00\x00\x00\x02\x03", "\x05\x0d\x00" + "\x03\x11" + zeros + "\x01\x00\x00\x00\x02\x03" + "\x9f\xdb\x69\x1a"},
		{api.Cmd{Kind: mount, By: 17, Serial: 1}, "\x00\x11" + zeros + "\x01\x00\x00\x00", "\x05\x0b\x00" + "\x00\x11" + zeros + "\x01\x00\x00\x00" + "\x29\xbb\x30\x3e"},
		{api.Cmd{Kind: leave, By: maxKey, Serial: 1 << 31}, "\x01" + zeros + "\x01\x00\x00\x00\x80", summed("\x05\x0b\x00" + "\x01" + zeros + "\x01\x00\x00\x00\x80")},
		{api.Cmd{Kind: ask, By: 16, Serial: 1, Mode: 1}, "\x02\x10" + zeros + "\x01\x00\x00\x00\x00\x00\x01", summed("\x05\x0e\x00" + "\x02\x10" + zeros + "\x01\x00\x00\x00\x00\x00\x01")},
		{api.Cmd{Kind: ask, By: 31, Serial: 256, Span: span(0, 63), Mode: 2}, "\x02\x1f" + zeros + "\x00\x01\x00\x00\x00\x3f\x02", summed("\x05\x0e\x00" + "\x02\x1f" + zeros + "\x00\x01\x00\x00\x00\x3f\x02")},
		{api.Cmd{Kind: claim, By: 17, Serial: 2, Dead: 16}, "\x04\x11" + zeros + "\x02\x00\x00\x00\x10" + zeros + "\x00" + zeros, summed("\x05\x17\x00" + "\x04\x11" + zeros + "\x02\x00\x00\x00\x10" + zeros + "\x00" + zeros)},
		{api.Cmd{Kind: claim, By: 17, Serial: 2, Dead: 1<<40 - 1, Was: maxKey}, "\x04\x11" + zeros + "\x02\x00\x00\x00\xff\xff\xff\xff\xff\x00" + zeros + "\x01", summed("\x05\x17\x00" + "\x04\x11" + zeros + "\x02\x00\x00\x00\xff\xff\xff\xff\xff\x00" + zeros + "\x01")},
		{api.Cmd{Kind: purge, By: 17, Serial: 3, Dead: 16}, "\x05\x11" + zeros + "\x03\x00\x00\x00\x10" + zeros, summed("\x05\x11\x00" + "\x05\x11" + zeros + "\x03\x00\x00\x00\x10" + zeros)},
	} {
		if s, e := decided.Bytes(x.cmd); e != api.OK || s != x.want {
			t.Errorf("%+v: % x, %d", x.c, s, e)
		}
		if c, cmd, is, e := decided.Read(x.want); e != api.OK || !is || c != x.c || cmd != x.cmd {
			t.Errorf("%+v: %+v, % x, %v, %d", x.c, c, cmd, is, e)
		}
	}
}

func TestBytes(t *testing.T) {
	for _, c := range good() {
		if s, e := decided.Bytes(textOf(c)); e != api.OK || s != sectorOf(c) {
			t.Fatalf("%+v: % x, %d", c, s, e)
		}
	}
}

func bytesNot(t *testing.T, cmd string) {
	t.Helper()
	if s, e := decided.Bytes(cmd); e != api.ErrArg || s != "" {
		t.Fatalf("%d bytes % x: % x, %d", len(cmd), cmd[:min(len(cmd), 40)], s, e)
	}
}

func TestBytesRefuses(t *testing.T) {
	l := badTexts()
	if len(l) < 5000 {
		t.Fatal(len(l))
	}
	for _, cmd := range l {
		bytesNot(t, cmd)
	}
	for _, s := range none() {
		if _, ok := commandOf(s); !ok {
			bytesNot(t, s)
		}
	}
	for _, n := range []int{506, 512, 65536, 65536 + 11, 1 << 20} {
		bytesNot(t, strings.Repeat("\x00", n))
		bytesNot(t, textOf(some()[0])+strings.Repeat("\x00", n))
	}
}

// Each byte, turned into each other one: another command's bytes or none.
func TestOneByteTurned(t *testing.T) {
	taken, refused := 0, 0
	for _, c := range some() {
		for i := range textOf(c) {
			for x := range 256 {
				b := []byte(textOf(c))
				b[i] = byte(x)
				s := sealed(5, string(b))
				if _, ok := commandOf(string(b)); !ok {
					bytesNot(t, string(b))
					readsNot(t, s)
					refused++
					continue
				}
				if o, e := decided.Bytes(string(b)); e != api.OK || o != s {
					t.Fatalf("% x: % x, %d", b, o, e)
				}
				reads(t, s)
				taken++
			}
		}
	}
	if taken < 1000 || refused < 1000 {
		t.Error(taken, refused)
	}
}

// P12.1, Read.

func reads(t *testing.T, s string) {
	t.Helper()
	c, cmd, is, e := decided.Read(s)
	if want := readOf(s); (told{c, cmd, is, e}) != want {
		t.Fatalf("%d bytes % x: %+v, % x, %v, %d, not %+v, % x, %v, %d", len(s), s[:min(len(s), 40)], c, cmd, is, e, want.c, want.cmd, want.is, want.e)
	}
}

func readsNot(t *testing.T, s string) {
	t.Helper()
	if c, cmd, is, e := decided.Read(s); e != api.ErrCorrupt || is || cmd != "" || c != (api.Cmd{}) {
		t.Fatalf("%d bytes % x: %+v, % x, %v, %d", len(s), s[:min(len(s), 40)], c, cmd, is, e)
	}
}

func TestRead(t *testing.T) {
	for _, c := range good() {
		if o, cmd, is, e := decided.Read(sectorOf(c)); e != api.OK || !is || o != c || cmd != textOf(c) {
			t.Fatalf("%+v: %+v, % x, %v, %d", c, o, cmd, is, e)
		}
	}
}

func TestReadOfEmpty(t *testing.T) {
	if c, cmd, is, e := decided.Read(""); e != api.OK || is || cmd != "" || c != (api.Cmd{}) {
		t.Errorf("%+v, % x, %v, %d", c, cmd, is, e)
	}
}

func TestReadOfNone(t *testing.T) {
	l := none()
	if len(l) < 10000 {
		t.Fatal(len(l))
	}
	for _, s := range l {
		readsNot(t, s)
	}
}

// The rest is sealed rightly, of whichever size.
func TestReadOfEachSize(t *testing.T) {
	for _, c := range some() {
		long := textOf(c) + strings.Repeat("\x00", 505)
		for size := range 505 + 1 {
			if s := sealed(5, long[:size]); size == sizes[c.Kind] {
				reads(t, s)
			} else {
				readsNot(t, s)
			}
		}
	}
}

// Of texts so long that to go through them would be felt.
func TestLongTexts(t *testing.T) {
	long := strings.Repeat("\x00", 1<<26)
	s, cmd := sectorOf(some()[0])+long, textOf(some()[0])+long
	for range 2000 {
		readsNot(t, s)
		bytesNot(t, cmd)
		if l, e := decided.Row(s); e != api.ErrCorrupt || len(l) != 0 {
			t.Fatal(len(l), e)
		}
	}
}

// P12.2, Row.

func rowIs(t *testing.T, want []api.Cmd, wantE api.Errno, sectors ...string) {
	t.Helper()
	if l, e := decided.Row(sectors...); e != wantE || !slices.Equal(l, want) {
		t.Fatalf("%q: %+v, %d, not %+v, %d", sectors[:min(len(sectors), 8)], l[:min(len(l), 8)], e, want[:min(len(want), 8)], wantE)
	}
}

// mounted is a mount by a key.
func mounted(by int) api.Cmd { return api.Cmd{By: by, Serial: 1} }

func TestRowByHand(t *testing.T) {
	a, b, c := mounted(17), mounted(18), api.Cmd{Kind: claim, By: 33, Serial: 9, Dead: 17}
	x, y, z := sectorOf(a), sectorOf(b), sectorOf(c)
	rowIs(t, nil, api.OK)
	rowIs(t, nil, api.OK, []string{}...)
	rowIs(t, []api.Cmd{a}, api.OK, x, "", y) // the chapter's example
	rowIs(t, nil, api.OK, "")
	rowIs(t, nil, api.OK, "", "", "")
	rowIs(t, nil, api.OK, "", x)
	rowIs(t, nil, api.OK, "", x, y, z)
	rowIs(t, []api.Cmd{a}, api.OK, x)
	rowIs(t, []api.Cmd{a}, api.OK, x, "")
	rowIs(t, []api.Cmd{a, b}, api.OK, x, y, "", z)
	rowIs(t, []api.Cmd{b, a}, api.OK, y, x, "", "", z, "")
	rowIs(t, []api.Cmd{a, b, c}, api.OK, x, y, z)
	rowIs(t, []api.Cmd{a, b, c}, api.OK, x, y, z, "")
	rowIs(t, []api.Cmd{c, c, a, c}, api.OK, z, z, x, z)
	for _, s := range []string{"x", x + y, sealed(4, textOf(a)), sealed(5, "\x00"+textOf(a)), sealed(5, textOf(a)+"\x00"), sealed(5, textOf(mounted(15))), x[1:], strings.Repeat("\x00", 512)} {
		rowIs(t, nil, api.ErrCorrupt, s)
		rowIs(t, nil, api.ErrCorrupt, s, "")
		rowIs(t, nil, api.ErrCorrupt, s, x)
		rowIs(t, nil, api.ErrCorrupt, x, s)
		rowIs(t, nil, api.ErrCorrupt, x, s, "", y)
		rowIs(t, nil, api.ErrCorrupt, x, y, z, s)
		rowIs(t, nil, api.ErrCorrupt, x, y, s, z, "")
		rowIs(t, nil, api.OK, "", s)
		rowIs(t, []api.Cmd{a}, api.OK, x, "", s)
		rowIs(t, []api.Cmd{a, b}, api.OK, x, y, "", s, z)
		rowIs(t, []api.Cmd{a}, api.OK, x, "", y, s)
		rowIs(t, []api.Cmd{a}, api.OK, x, "", "", y, "", z, s)
	}
}

// Each short row of these, in each order.
func TestRowOfEachOrder(t *testing.T) {
	kinds := []string{"", sectorOf(mounted(17)), sectorOf(some()[8]), "x", sealed(5, "")}
	rows := [][]string{{}}
	for from := 0; len(rows[from]) < 6; from++ {
		for _, s := range kinds {
			rows = append(rows, append(slices.Clone(rows[from]), s))
		}
	}
	if len(rows) < 15000 {
		t.Fatal(len(rows))
	}
	for _, sectors := range rows {
		want, e := rowOf(sectors...)
		rowIs(t, want, e, sectors...)
	}
}

func TestRowOfNone(t *testing.T) {
	x := sectorOf(mounted(17))
	for _, s := range none() {
		rowIs(t, nil, api.ErrCorrupt, s)
		rowIs(t, nil, api.ErrCorrupt, x, s, x)
		rowIs(t, []api.Cmd{mounted(17)}, api.OK, x, "", s)
	}
}

// However long a row is, all of it counts, and the one place where it stops.
func TestRowOfMany(t *testing.T) {
	all := good()
	sectors := make([]string, len(all))
	for i, c := range all {
		sectors[i] = sectorOf(c)
	}
	rowIs(t, all, api.OK, sectors...)
	for _, at := range []int{0, 1, 511, 512, 513, len(all) / 2, len(all) - 2, len(all) - 1} {
		was := sectors[at]
		sectors[at] = ""
		rowIs(t, all[:at], api.OK, sectors...)
		sectors[at] = "x"
		rowIs(t, nil, api.ErrCorrupt, sectors...)
		if at > 0 {
			sectors[0] = ""
			rowIs(t, nil, api.OK, sectors...)
			sectors[0] = sectorOf(all[0])
		}
		sectors[at] = was
	}
	long := slices.Repeat(sectors, 4)
	rowIs(t, slices.Repeat(all, 4), api.OK, long...)
}

// P12.2, Log.

// geometries are such as may be, at the edges of what a log's place hangs on.
func geometries() []api.Geo {
	return []api.Geo{
		{Nodes: 2, Slots: 1, Blocks: 1, Per: 1, Journal: 3, Log: 8, Lease: 1, Wait: 2},
		{Nodes: 1, Slots: 1, Blocks: 1, Per: 1, Journal: 3, Log: 8, Lease: 1, Wait: 2},
		{Nodes: 1, Slots: 1, Blocks: 64, Per: 8, Journal: 64, Log: 512, Lease: 1, Wait: 2},
		{Nodes: 16, Slots: 1, Blocks: 1, Per: 1, Journal: 3, Log: 9, Lease: 1, Wait: 1 << 20},
		{Nodes: 16, Slots: 16, Blocks: 64, Per: 8, Journal: 64, Log: 512, Lease: 7, Wait: 8},
		{Nodes: 3, Slots: 2, Blocks: 5, Per: 2, Journal: 9, Log: 17, Lease: 3, Wait: 9},
		{Nodes: 5, Slots: 5, Blocks: 2, Per: 3, Journal: 5, Log: 40, Lease: 3, Wait: 9},
	}
}

// place is where the log's i-th command stands: behind the superblock, the leases and the records of ballots.
func place(g api.Geo, i int) int { return 1 + g.Nodes + g.Nodes + i }

func total(g api.Geo) int {
	return place(g, g.Log) + g.Slots*(1+g.Journal) + g.Blocks*g.Per
}

// deviceOf is a device of a geometry whose log has these sectors from place 0 on; around it stands what would be corrupt there.
func deviceOf(g api.Geo, log ...string) api.Device {
	d := api.Device{S: make([]string, total(g)), Cache: make([][]api.Cell, g.Nodes), Keys: make([]int, g.Nodes), Next: 1}
	for i := range d.S {
		if i < place(g, 0) || i >= place(g, g.Log) {
			d.S[i] = "around"
		}
	}
	copy(d.S[place(g, 0):place(g, g.Log)], log)
	return d
}

func logIs(t *testing.T, want []api.Cmd, wantE api.Errno, g api.Geo, d api.Device) {
	t.Helper()
	if l, e := decided.Log(g, d); e != wantE || !slices.Equal(l, want) {
		t.Fatalf("%+v: %+v, %d, not %+v, %d", g, l[:min(len(l), 8)], e, want[:min(len(want), 8)], wantE)
	}
}

// many are n commands, no two of which are alike, and their sectors.
func many(n int) (l []api.Cmd, sectors []string) {
	for i := range n {
		c := some()[i%len(some())]
		c.Serial = 1 + i
		l, sectors = append(l, c), append(sectors, sectorOf(c))
	}
	return l, sectors
}

func TestLogOfEachLength(t *testing.T) {
	for _, g := range geometries() {
		all, sectors := many(g.Log)
		for n := range g.Log + 1 {
			logIs(t, all[:n], api.OK, g, deviceOf(g, sectors[:n]...))
		}
	}
}

// A row as such, in a log.
func TestLogIsTheRow(t *testing.T) {
	for _, g := range geometries() {
		all, sectors := many(g.Log)
		for _, at := range []int{0, 1, 2, g.Log - 2, g.Log - 1} {
			d := deviceOf(g, sectors...)
			d.S[place(g, at)] = ""
			logIs(t, all[:at], api.OK, g, d)
			d.S[place(g, at)] = "x"
			logIs(t, nil, api.ErrCorrupt, g, d)
			d.S[place(g, at)] = sealed(4, textOf(all[at]))
			logIs(t, nil, api.ErrCorrupt, g, d)
			if at > 0 {
				d.S[place(g, at-1)] = ""
				logIs(t, all[:at-1], api.OK, g, d)
			}
		}
	}
}

// What stands around a log is no part of it, be it decided, empty or none.
func TestLogsPlace(t *testing.T) {
	other := sectorOf(api.Cmd{Kind: purge, By: 99, Serial: 99, Dead: 98})
	for _, g := range geometries() {
		all, sectors := many(g.Log)
		for _, around := range []string{other, "", "x", strings.Repeat("\x00", 512)} {
			for _, n := range []int{0, 1, g.Log - 1, g.Log} {
				d := deviceOf(g, sectors[:n]...)
				for i, s := range d.S {
					if s == "around" {
						d.S[i] = around
					}
				}
				logIs(t, all[:n], api.OK, g, d)
			}
		}
	}
}

// Each sector of a device alone: just those of the log are asked.
func TestLogOfEachSector(t *testing.T) {
	g := geometries()[5]
	all, sectors := many(g.Log)
	for i := range total(g) {
		full, none := deviceOf(g, sectors...), deviceOf(g)
		full.S[i], none.S[i] = "y", "y"
		switch at := i - place(g, 0); {
		case at < 0 || at >= g.Log:
			logIs(t, all, api.OK, g, full)
			logIs(t, nil, api.OK, g, none)
		case at == 0:
			logIs(t, nil, api.ErrCorrupt, g, full)
			logIs(t, nil, api.ErrCorrupt, g, none)
		default:
			logIs(t, nil, api.ErrCorrupt, g, full)
			logIs(t, nil, api.OK, g, none)
		}
	}
}

// What stands counts, whatever anybody has in a cache, and whoever is fenced.
func TestLogIsWhatStands(t *testing.T) {
	g := geometries()[0]
	all, sectors := many(g.Log)
	d := deviceOf(g, sectors[:2]...)
	d.Next, d.Keys, d.Fenced = 3, []int{16, 33}, []int{16}
	d.Cache[0] = []api.Cell{{Sector: place(g, 0), B: "x"}, {Sector: place(g, 2), B: sectors[2]}}
	d.Cache[1] = []api.Cell{{Sector: place(g, 1), B: ""}, {Sector: place(g, 0), B: sectors[5]}}
	logIs(t, all[:2], api.OK, g, d)
}

// badGeometries are such as may not be, each for one thing alone.
func badGeometries(g api.Geo) []api.Geo {
	l := []api.Geo{{}}
	for _, change := range []func(g *api.Geo, n int){
		func(g *api.Geo, n int) { g.Nodes = n },
		func(g *api.Geo, n int) { g.Slots = n },
		func(g *api.Geo, n int) { g.Blocks = n },
		func(g *api.Geo, n int) { g.Per = n },
		func(g *api.Geo, n int) { g.Journal = n },
		func(g *api.Geo, n int) { g.Log = n },
		func(g *api.Geo, n int) { g.Lease = n },
		func(g *api.Geo, n int) { g.Wait = n },
	} {
		for _, n := range []int{math.MinInt, -1 << 32, -1, 0, 1<<20 + 1, 1 << 32, 1<<32 + 2, math.MaxInt - 8, math.MaxInt} {
			b := g
			change(&b, n)
			l = append(l, b)
		}
	}
	few, much, late := g, g, g
	few.Log, much.Log, late.Wait = 8*g.Slots-1, 513, g.Lease
	return append(l, few, much, late)
}

func TestLogOfNoGeometry(t *testing.T) {
	for _, g := range geometries() {
		_, sectors := many(2)
		d := deviceOf(g, sectors...)
		for _, b := range badGeometries(g) {
			logIs(t, nil, api.ErrArg, b, d)
			if n := total(b); n >= 1 && n < 1<<16 { // a device that would be of just that size
				own := d
				own.S = make([]string, n)
				logIs(t, nil, api.ErrArg, b, own)
			}
		}
	}
}

func TestLogOfNoDevice(t *testing.T) {
	for _, g := range geometries() {
		all, sectors := many(2)
		long := strings.Repeat("l", 513)
		d := deviceOf(g, sectors...)
		logIs(t, all, api.OK, g, d)
		for i, change := range []func(d *api.Device){
			func(d *api.Device) { d.Next = 0 },
			func(d *api.Device) { d.Next = math.MinInt },
			func(d *api.Device) { d.Next = 1<<36 + 1 },
			func(d *api.Device) { d.Next = math.MaxInt },
			func(d *api.Device) { d.S[0] = long },
			func(d *api.Device) { d.S[place(g, 0)] = long },
			func(d *api.Device) { d.S[place(g, 5)] = long },
			func(d *api.Device) { d.S[len(d.S)-1] = long },
			func(d *api.Device) { d.Keys = nil },
			func(d *api.Device) { d.Cache = nil },
			func(d *api.Device) { d.Keys, d.Cache = nil, nil },
			func(d *api.Device) { d.Cache = d.Cache[1:] },
			func(d *api.Device) { d.Keys, d.Cache = make([]int, 17), make([][]api.Cell, 17) },
			func(d *api.Device) { d.Keys[0] = 16 },
			func(d *api.Device) { d.Keys[0] = -1 },
			func(d *api.Device) { d.Fenced = []int{16} },
			func(d *api.Device) { d.Fenced = []int{0} },
			func(d *api.Device) { d.Cache[0] = []api.Cell{{Sector: -1}} },
			func(d *api.Device) { d.Cache[0] = []api.Cell{{Sector: len(d.S)}} },
			func(d *api.Device) { d.Cache[0] = []api.Cell{{Sector: 3}, {Sector: 3}} },
			func(d *api.Device) { d.Cache[0] = []api.Cell{{B: long}} },
			func(d *api.Device) { d.S = nil },
			func(d *api.Device) { *d = api.Device{} },
		} {
			b := api.Device{S: slices.Clone(d.S), Cache: slices.Clone(d.Cache), Keys: slices.Clone(d.Keys), Next: d.Next}
			change(&b)
			if l, e := decided.Log(g, b); e != api.ErrArg || len(l) != 0 {
				t.Errorf("%d: %+v, %d", i, l, e)
			}
		}
	}
}

// How many nodes a device has is no matter of its sectors' count.
func TestLogOfAnyNodes(t *testing.T) {
	for _, g := range geometries() {
		all, sectors := many(3)
		for nodes := 1; nodes <= api.MaxNodes; nodes++ {
			d := deviceOf(g, sectors...)
			d.Keys, d.Cache = make([]int, nodes), make([][]api.Cell, nodes)
			logIs(t, all, api.OK, g, d)
		}
	}
}

func TestLogOfMoreOrLess(t *testing.T) {
	for _, g := range geometries() {
		_, sectors := many(g.Log)
		for _, filled := range [][]string{nil, sectors[:2], sectors} {
			d := deviceOf(g, filled...)
			for _, n := range []int{1, 2, place(g, 0), place(g, g.Log) - 1, place(g, g.Log), len(d.S) - 2, len(d.S) - 1} {
				less := d
				less.S = d.S[:n]
				logIs(t, nil, api.ErrArg, g, less)
			}
			for _, n := range []int{1, 2, 1000} {
				more := d
				more.S = slices.Concat(d.S, make([]string, n))
				logIs(t, nil, api.ErrArg, g, more)
			}
		}
	}
}

// What may not be goes ahead of what is none.
func TestLogsErrorsInOrder(t *testing.T) {
	g := geometries()[0]
	d := deviceOf(g, "x")
	logIs(t, nil, api.ErrCorrupt, g, d)
	bad := g
	bad.Log = 7
	logIs(t, nil, api.ErrArg, bad, d)
	more := d
	more.S = slices.Concat(d.S, []string{""})
	logIs(t, nil, api.ErrArg, g, more)
	d.Next = 0
	logIs(t, nil, api.ErrArg, g, d)
}

// P12.2, Lasts.

// lastsOf tells each node's by all commands, over and over.
func lastsOf(l []api.Cmd) []int {
	want := make([]int, 16)
	for node := range want {
		for _, c := range l {
			if isKey(c.By) && c.By%16 == node && c.By > want[node] {
				want[node] = c.By
			}
		}
	}
	return want
}

// by are commands of all kinds by these keys, which name other ones beside.
func by(keys ...int) []api.Cmd {
	var l []api.Cmd
	for i, key := range keys {
		l = append(l, api.Cmd{Kind: int8(i % 6), By: key, Serial: 1 + i, Dead: 1<<30 + i, Was: 1<<31 + i})
	}
	return l
}

// only is a row of lasts that has these alone: nodes, each with its key.
func only(pairs ...int) []int {
	l := make([]int, 16)
	for i := 0; i < len(pairs); i += 2 {
		l[pairs[i]] = pairs[i+1]
	}
	return l
}

func TestLastsByHand(t *testing.T) {
	for i, x := range []struct {
		l    []api.Cmd
		want []int
	}{
		{nil, only()}, {[]api.Cmd{}, only()}, {by(16), only(0, 16)}, {by(17), only(1, 17)}, {by(31), only(15, 31)}, {by(maxKey), only(0, maxKey)}, {by(maxKey - 1), only(15, maxKey-1)},
		{by(16, 32, 48), only(0, 48)}, {by(48, 32, 16), only(0, 48)}, {by(32, 48, 16), only(0, 48)}, {by(31, 47, 1<<20+15, 63), only(15, 1<<20+15)}, {by(47, 31), only(15, 47)}, {by(33, 33), only(1, 33)},
		{by(16, 31, 33, 47, 32), only(0, 32, 1, 33, 15, 47)}, {by(1<<32, 16, 1<<32+15, 31), only(0, 1<<32, 15, 1<<32+15)},
		{by(0), only()}, {by(1), only()}, {by(15), only()}, {by(-1), only()}, {by(-16), only()}, {by(-17, 3, 14), only()}, {by(maxKey + 1), only()}, {by(maxKey + 16), only()}, {by(1<<48 + 17), only()}, {by(math.MaxInt, math.MinInt), only()},
		{by(17, maxKey+1, 33, 1<<50+1), only(1, 33)}, {by(15, 16, -15), only(0, 16)}, {by(maxKey+15, 31), only(15, 31)},
		{by(16, 17, 18, 19, 20, 21, 22, 23, 24, 25, 26, 27, 28, 29, 30, 31), []int{16, 17, 18, 19, 20, 21, 22, 23, 24, 25, 26, 27, 28, 29, 30, 31}},
		{[]api.Cmd{{By: 17}, {By: 33, Serial: -5}, {Kind: 9, By: 18}, {Kind: -128, By: 19, Mode: 77, Span: span(9, -9)}, {}}, only(1, 33, 2, 18, 3, 19)}, // whether a command may be is not asked
		{[]api.Cmd{{Kind: claim, By: 17, Serial: 1, Dead: 48, Was: 51}, {Kind: purge, By: 18, Serial: 1, Dead: 65}}, only(1, 17, 2, 18)},
	} {
		if l := decided.Lasts(x.l); !slices.Equal(l, x.want) {
			t.Errorf("%d: %v, not %v", i, l, x.want)
		}
	}
}

// Each number near the beginning and near the end, alone and behind others.
func TestLastsOfEachKey(t *testing.T) {
	for n := -100; n <= 300; n++ {
		for _, key := range []int{n, 1<<32 + n, maxKey + n} {
			for _, l := range [][]api.Cmd{by(key), by(key, key-16), by(key-16, key), by(key, 16, 17, 31, key+16), by(key+1, key, key-1)} {
				if got, want := decided.Lasts(l), lastsOf(l); !slices.Equal(got, want) {
					t.Fatalf("%d: %v, not %v", key, got, want)
				}
			}
		}
	}
}

func TestLastsOfMany(t *testing.T) {
	x := dice(3)
	for range 300 {
		var keys []int
		for range x.below(200) {
			keys = append(keys, x.below([]int{20, 64, 1000, 1 << 30, 1<<40 + 200}[x.below(5)])-x.below(20))
		}
		if got, want := decided.Lasts(by(keys...)), lastsOf(by(keys...)); !slices.Equal(got, want) {
			t.Fatalf("%v: %v, not %v", keys, got, want)
		}
	}
	l := by(slices.Repeat([]int{16, 35, 31, 1 << 20, 40}, 100000)...)
	if got, want := decided.Lasts(l), lastsOf(l); !slices.Equal(got, want) {
		t.Error(got, want)
	}
}

// P12.3.

func TestThereAndBack(t *testing.T) {
	for _, c := range good() {
		s, e := decided.Bytes(textOf(c))
		o, cmd, is, f := decided.Read(s)
		again, g := decided.Bytes(cmd)
		if e != api.OK || f != api.OK || g != api.OK || !is || o != c || cmd != textOf(c) || again != s || len(s) > api.SectorSize {
			t.Fatalf("%+v: %+v, % x, %d, %d, %d", c, o, cmd, e, f, g)
		}
		rowIs(t, []api.Cmd{c}, api.OK, s, "", s)
	}
}

// Whatever stands behind a place that is not decided, the answer is one and the same.
func TestNothingBehindIsTold(t *testing.T) {
	g := geometries()[0]
	all, sectors := many(g.Log)
	for at := range g.Log {
		for _, behind := range []string{"", "x", sectors[7], sealed(5, "x"), strings.Repeat("\x00", 512)} {
			log := slices.Clone(sectors)
			log[at] = ""
			for i := at + 1; i < len(log); i++ {
				log[i] = behind
			}
			logIs(t, all[:at], api.OK, g, deviceOf(g, log...))
			rowIs(t, all[:at], api.OK, log...)
		}
	}
}

// R1, R3 and R4.

type dice uint64

func (x *dice) below(n int) int {
	*x = *x*6364136223846793005 + 1442695040888963407
	return int(uint64(*x) >> 33 % uint64(n))
}

// text is any sector: empty, decided, harmed, sealed as something else, or bytes as they come.
func (x *dice) text() string {
	s := sectorOf(some()[x.below(len(some()))])
	switch x.below(8) {
	case 0:
		return ""
	case 1:
		b := make([]byte, x.below(600))
		for i := range b {
			b[i] = byte(x.below(256))
		}
		return string(b)
	case 2:
		return sealed(x.below(256), textOf(some()[x.below(len(some()))]))
	case 3:
		b := []byte(s)
		b[x.below(len(b))] ^= byte(x.below(256))
		return string(b)
	case 4:
		b := []byte(textOf(some()[x.below(len(some()))]))
		b[x.below(len(b))] = byte(x.below(256))
		return sealed(5, string(b))
	}
	return s
}

func TestAnySectors(t *testing.T) {
	x := dice(5)
	for range 5000 {
		sectors := make([]string, x.below(12))
		for i := range sectors {
			sectors[i] = x.text()
			reads(t, sectors[i])
			if _, ok := commandOf(sectors[i]); !ok {
				bytesNot(t, sectors[i])
			}
		}
		want, e := rowOf(sectors...)
		rowIs(t, want, e, sectors...)
		g := geometries()[x.below(2)]
		log := slices.Concat(sectors, make([]string, g.Log))[:g.Log]
		if want, e = rowOf(log...); slices.ContainsFunc(log, func(s string) bool { return len(s) > 512 }) {
			want, e = nil, api.ErrArg // no device has so long a sector
		}
		logIs(t, want, e, g, deviceOf(g, log...))
	}
}

// anyDevice has in each field whatever there might be.
func (x *dice) anyDevice(g api.Geo) api.Device {
	ints := []int{math.MinInt, math.MinInt + 1, -1 << 40, -1, 0, 1, 2, 15, 16, 17, 33, 1 << 36, 1<<40 + 1, math.MaxInt - 1, math.MaxInt}
	number := func() int { return ints[x.below(len(ints))] }
	d := deviceOf(g, x.text(), x.text(), x.text())
	for range x.below(4) {
		switch x.below(8) {
		case 0:
			d.S = d.S[:x.below(len(d.S)+1)]
		case 1:
			d.S = append(d.S, x.text())
		case 2:
			d.Next = number()
		case 3:
			d.Keys = append(d.Keys, number())
		case 4:
			d.Cache = append(d.Cache, []api.Cell{{Sector: number(), B: x.text()}})
		case 5:
			d.Fenced = append(d.Fenced, number())
		case 6:
			d.Keys = []int{number()}
		case 7:
			d.Cache = [][]api.Cell{{{Sector: number(), B: x.text()}}, nil}
		}
	}
	return d
}

func TestAnyDevices(t *testing.T) {
	x := dice(11)
	seen := map[api.Errno]int{}
	for range 20000 {
		gs := geometries()[:2]
		g := gs[x.below(2)]
		d := x.anyDevice(g)
		asked := g
		if x.below(8) == 0 {
			l := badGeometries(g)
			asked = l[x.below(len(l))]
		}
		l, e := decided.Log(asked, d)
		seen[e]++
		if e == api.OK {
			want, f := rowOf(d.S[place(g, 0):place(g, g.Log)]...)
			if f != api.OK || !slices.Equal(l, want) || len(d.S) != total(g) {
				t.Fatalf("%+v, %d, not %+v", l, f, want)
			}
		} else if len(l) != 0 {
			t.Fatal(l, e)
		}
	}
	if len(seen) != 3 || seen[api.OK] < 500 || seen[api.ErrArg] < 500 || seen[api.ErrCorrupt] < 500 {
		t.Error(seen)
	}
}

func TestFarCommands(t *testing.T) {
	ints := []int{math.MinInt, math.MinInt + 1, math.MinInt + 17, -1 << 48, -1 << 32, -17, -16, -1, 0, 1, 15, 16, 17, 1 << 31, 1 << 32, maxKey, maxKey + 1, 1 << 48, math.MaxInt - 1, math.MaxInt}
	for _, kind := range []int8{math.MinInt8, -1, mount, claim, 6, math.MaxInt8} {
		for _, a := range ints {
			for _, b := range ints {
				l := []api.Cmd{{Kind: kind, By: a, Serial: b, Dead: b, Was: a, Span: span(a, b), Mode: kind}, {Kind: kind, By: b, Serial: a}}
				if got, want := decided.Lasts(l), lastsOf(l); !slices.Equal(got, want) {
					t.Fatalf("%+v: %v, not %v", l, got, want)
				}
			}
		}
	}
}

// What is called between two calls is not to be told from the second one's answer.
func TestNothingKept(t *testing.T) {
	g := geometries()[0]
	_, sectors := many(5)
	ask := func() string {
		s, e := decided.Bytes(textOf(some()[4]))
		c, cmd, is, f := decided.Read(sectors[3])
		z, none, not, k := decided.Read("")
		l, h := decided.Row(sectors...)
		m, i := decided.Row()
		n, j := decided.Log(g, deviceOf(g, sectors[:3]...))
		return fmt.Sprintf("%q %d %+v %q %v %d %+v %q %v %d %+v %d %+v %d %+v %d %v", s, e, c, cmd, is, f, z, none, not, k, l, h, m, i, n, j, decided.Lasts(l))
	}
	was := ask()
	for _, s := range none() {
		_, _ = decided.Bytes(s)
		_, _, _, _ = decided.Read(s)
		_, _ = decided.Row(sectors[0], s)
		_, _ = decided.Log(g, deviceOf(g, sectors[0], s))
	}
	decided.Lasts(by(99, 98, 97))
	if now := ask(); now != was {
		t.Error(now, was)
	}
}

// spare is all of a device, with what is behind its lists.
func spare(d api.Device) string {
	s := fmt.Sprintf("%q %v %v %d", d.S[:cap(d.S)], d.Keys[:cap(d.Keys)], d.Fenced[:cap(d.Fenced)], d.Next)
	for _, l := range d.Cache[:cap(d.Cache)] {
		s += fmt.Sprintf(" %+v", l[:cap(l)])
	}
	return s
}

// roomy is d with spare room behind each of its lists, filled with what nobody may touch.
func roomy(d api.Device) api.Device {
	d.S = append(slices.Clone(d.S), "room", "room", "room")[:len(d.S)]
	d.Keys = append(slices.Clone(d.Keys), -5, -5)[:len(d.Keys)]
	d.Fenced = append(slices.Clone(d.Fenced), -6, -6)[:len(d.Fenced)]
	d.Cache = append(slices.Clone(d.Cache), []api.Cell{{Sector: -8}})[:len(d.Cache)]
	for i, l := range d.Cache {
		d.Cache[i] = append(slices.Clone(l), api.Cell{Sector: -7}, api.Cell{Sector: -7})[:len(l)]
	}
	return d
}

func TestHandedInUnchanged(t *testing.T) {
	g := geometries()[0]
	all, sectors := many(8)
	for n := range 9 {
		for _, at := range []string{"", "x", sectors[3]} {
			room := slices.Clone(sectors)
			room[n/2] = at
			was := slices.Clone(room)
			_, _ = decided.Row(room[:n]...)
			_, _ = decided.Row(room[n:]...)
			_, _ = decided.Row(room[n/2 : n : n]...)
			if !slices.Equal(room, was) {
				t.Fatalf("%q, %q", room, was)
			}
			d := deviceOf(g, room[:n]...)
			d.Next, d.Keys, d.Fenced = 4, []int{16, 49}, []int{33, 49}
			d.Cache[1] = []api.Cell{{Sector: place(g, 1), B: "c"}, {Sector: 0, B: "d"}}
			d = roomy(d)
			before := spare(d)
			_, _ = decided.Log(g, d)
			bad := g
			bad.Log = 7
			_, _ = decided.Log(bad, d)
			d.Next = 0
			_, _ = decided.Log(g, d)
			d.Next = 4
			if spare(d) != before {
				t.Fatal(spare(d), before)
			}
		}
		cmds := slices.Clone(all)
		decided.Lasts(cmds[:n])
		decided.Lasts(cmds[n:])
		if !slices.Equal(cmds, all) {
			t.Fatalf("%+v", cmds)
		}
	}
}

func TestNothingShared(t *testing.T) {
	g := geometries()[0]
	all, sectors := many(8)
	d := deviceOf(g, sectors...)
	for i, call := range []func() []api.Cmd{
		func() []api.Cmd { l, _ := decided.Row(sectors...); return l },
		func() []api.Cmd { l, _ := decided.Log(g, d); return l },
	} {
		one, two := call(), call()
		for k := range one[:cap(one)] {
			one[:cap(one)][k] = api.Cmd{By: -99}
		}
		if !slices.Equal(two, all) || !slices.Equal(call(), all) {
			t.Error(i, two)
		}
		room := append(two, api.Cmd{By: -98})
		if three := append(call(), api.Cmd{By: -97}); room[8].By != -98 || three[8].By != -97 {
			t.Error(i, "one room behind two lists")
		}
	}
	one, two := decided.Lasts(all), decided.Lasts(all)
	for k := range one[:cap(one)] {
		one[:cap(one)][k] = -99
	}
	if want := lastsOf(all); !slices.Equal(two, want) || !slices.Equal(decided.Lasts(all), want) || !slices.Equal(decided.Lasts(nil), only()) {
		t.Error(two)
	}
	l, _ := decided.Row(sectors...)
	sectors[0], d.S[place(g, 0)] = "x", "x" // what was answered stays
	if !slices.Equal(l, all) {
		t.Error(l)
	}
}
