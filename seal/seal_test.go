package seal_test

import (
	"encoding/binary"
	"hash/crc32"
	"math"
	"slices"
	"strings"
	"testing"

	"breakwater/api"
	"breakwater/crc"
	"breakwater/num"
	"breakwater/seal"
)

const most = 505

// greatest is the greatest number of each width.
var greatest = [...]int{1: 255, 2: 65535, 3: 16777215, 4: 4294967295, 5: 1099511627775, 6: 1099511627776}

// noWidths are beside the widths, far out, and some that a narrower type would take for a width.
var noWidths = []int{0, 7, 8, -1, -2, -6, 256 + 1, 1<<16 + 2, 1<<32 + 3, math.MaxInt, math.MaxInt - 1, math.MinInt, math.MinInt + 1}

// noNumbers fit no width.
var noNumbers = []int{-1, -2, -256, api.MaxNumber + 1, 1<<48 - 1, 1 << 48, math.MaxInt, math.MinInt}

// noKinds are the kinds that no sector has.
var noKinds = []int8{0, -1, -2, -5, -127, -128}

// tooGreat are six bytes each that are more than MaxNumber.
var tooGreat = []string{"\x01\x00\x00\x00\x00\x01", "\x00\x00\x00\x00\x01\x01", "\x00\x00\x00\x00\x00\x02", "\x00\x00\x00\x00\x00\x80", "\xff\xff\xff\xff\xff\xff"}

// summed is a text with its sum behind it, as Go's own library has that: nothing that the program does is leant on.
func summed(s string) string {
	sum := crc32.Checksum([]byte(s), crc32.MakeTable(crc32.Castagnoli))
	return string(binary.LittleEndian.AppendUint32([]byte(s), sum))
}

// ahead is a kind and a count, whatever these are, and what stands behind them.
func ahead(kind, count int, load string) string {
	return string([]byte{byte(kind), byte(count), byte(count >> 8)}) + load
}

// sealed is the sector by the chapter's words; it is asked of any kind and load.
func sealed(kind int, load string) string { return summed(ahead(kind, len(load), load)) }

// bytesOf tells a number's bytes by division alone.
func bytesOf(n, width int) string {
	b := make([]byte, 0, width)
	for range width {
		b = append(b, byte(n%256))
		n /= 256
	}
	return string(b)
}

// text is as many bytes that follow no plain rule, the same ones each time.
func text(size int) string {
	b := make([]byte, size)
	x := uint64(size)*2654435761 + 7
	for i := range b {
		x = x*6364136223846793005 + 1442695040888963407
		b[i] = byte(x >> 40)
	}
	return string(b)
}

// loads are of each size that may be, and of some sizes such as are easily taken for something else.
func loads() []string {
	l := []string{"abc", "\x00", "\xff", "\x01\x00\x00", sealed(1, ""), sealed(127, "a load"), strings.Repeat("\x00", most), strings.Repeat("\xff", most)}
	for size := range most + 1 {
		l = append(l, text(size))
	}
	return l
}

func opensNot(t *testing.T, s string) {
	t.Helper()
	if kind, load, e := seal.Open(s); e != api.ErrSeal || kind != 0 || load != "" {
		t.Fatalf("Open of %d bytes % x: %d, %q, %d", len(s), s[:min(len(s), 40)], kind, load, e)
	}
}

func makesNot(t *testing.T, kind int8, rest string, widths []int, l ...int) {
	t.Helper()
	if s, e := seal.Make(kind, rest, widths, l...); e != api.ErrArg || s != "" {
		t.Fatalf("Make(%d, %d bytes, %v, %v): %d bytes, %d", kind, len(rest), widths[:min(len(widths), 9)], l[:min(len(l), 9)], len(s), e)
	}
}

func fieldsNot(t *testing.T, kind int8, s string, widths ...int) {
	t.Helper()
	if l, rest, e := seal.Fields(kind, s, widths...); e != api.ErrSeal || len(l) != 0 || rest != "" {
		t.Fatalf("Fields(%d, %d bytes, %v): %v, %q, %d", kind, len(s), widths[:min(len(widths), 9)], l, rest, e)
	}
}

func fieldsAre(t *testing.T, kind int8, s string, widths, want []int, left string) {
	t.Helper()
	if l, rest, e := seal.Fields(kind, s, widths...); e != api.OK || !slices.Equal(l, want) || rest != left {
		t.Fatalf("Fields(%d, %d bytes, %v): %v, %q, %d; not %v, %q", kind, len(s), widths, l, rest, e, want, left)
	}
}

func TestNumbersOfTheChapter(t *testing.T) {
	if api.OK != 0 || api.ErrArg != 2 || api.ErrSeal != 30 || seal.MostLoad != most || api.SectorSize != 512 {
		t.Error(api.OK, api.ErrArg, api.ErrSeal, seal.MostLoad, api.SectorSize)
	}
}

// P3.1, Seal.

func TestSealByHand(t *testing.T) {
	for _, x := range []struct {
		kind       int8
		load, want string
	}{
		{1, "", "\x01\x00\x00\x04\x31\x25\xc5"},
		{127, "", "\x7f\x00\x00\x91\xff\x46\x7a"},
		{5, "abc", "\x05\x03\x00abc\xdd\x0c\xf3\x14"},
	} {
		if s, e := seal.Seal(x.kind, x.load); e != api.OK || s != x.want {
			t.Errorf("Seal(%d, %q): % x, %d", x.kind, x.load, s, e)
		}
	}
}

func TestSealEachKind(t *testing.T) {
	for kind := 1; kind <= 127; kind++ {
		for _, load := range []string{"", "a", "abc", text(255), text(256), text(257), text(504), text(505)} {
			if s, e := seal.Seal(int8(kind), load); e != api.OK || s != sealed(kind, load) {
				t.Fatalf("Seal(%d, %d bytes): % x, %d", kind, len(load), s, e)
			}
		}
	}
}

func TestSealEachLoad(t *testing.T) {
	for _, load := range loads() {
		for _, kind := range []int8{1, 2, 126, 127} {
			s, e := seal.Seal(kind, load)
			if e != api.OK || s != sealed(int(kind), load) || len(s) != len(load)+7 {
				t.Fatalf("Seal(%d, %d bytes): % x, %d", kind, len(load), s, e)
			}
		}
	}
	if s, e := seal.Seal(127, text(most)); e != api.OK || len(s) != api.SectorSize {
		t.Error(len(s), e)
	}
}

func TestSealTheCountStandsLowestByteAhead(t *testing.T) {
	for size, want := range map[int]string{0: "\x00\x00", 1: "\x01\x00", 255: "\xff\x00", 256: "\x00\x01", 504: "\xf8\x01", 505: "\xf9\x01"} {
		s, e := seal.Seal(9, text(size))
		if e != api.OK || s[:1] != "\x09" || s[1:3] != want || s[3:3+size] != text(size) {
			t.Errorf("%d bytes: % x, %d", size, s[:3], e)
		}
	}
}

func TestSealTheSumIsOfAllThatStandsAhead(t *testing.T) {
	for _, load := range loads() {
		s, e := seal.Seal(3, load)
		if e != api.OK || len(s) < 7 {
			t.Fatal(len(s), e)
		}
		n, f := num.Get(s, len(s)-4, 4)
		if f != api.OK || n != crc.Sum([]byte(s[:len(s)-4])) {
			t.Fatalf("%d bytes: % x, %d", len(load), s[len(s)-4:], f)
		}
	}
}

func TestSealWhatMayNotBe(t *testing.T) {
	short := []string{"", "a", "abc", text(256), text(504), text(505)}
	long := []string{text(506), text(507), text(508), text(512), text(513), text(65535), text(65536), text(65536 + 3), text(65536 + 505), text(1 << 20)}
	not := func(kind int8, load string) {
		if s, e := seal.Seal(kind, load); e != api.ErrArg || s != "" {
			t.Errorf("Seal(%d, %d bytes): %d bytes, %d", kind, len(load), len(s), e)
		}
	}
	for kind := -128; kind <= 0; kind++ {
		for _, load := range slices.Concat(short, long) {
			not(int8(kind), load)
		}
	}
	for kind := 1; kind <= 127; kind++ {
		for _, load := range long {
			not(int8(kind), load)
		}
	}
}

// P3.1, Open.

func TestOpenEachKind(t *testing.T) {
	for kind := 1; kind <= 127; kind++ {
		for _, load := range []string{"", "a", "abc", text(255), text(256), text(257), text(504), text(505)} {
			if k, l, e := seal.Open(sealed(kind, load)); e != api.OK || int(k) != kind || l != load {
				t.Fatalf("kind %d, %d bytes: %d, %q, %d", kind, len(load), k, l, e)
			}
		}
	}
}

func TestOpenEachLoad(t *testing.T) {
	for _, load := range loads() {
		for _, kind := range []int{1, 2, 126, 127} {
			if k, l, e := seal.Open(sealed(kind, load)); e != api.OK || int(k) != kind || l != load {
				t.Fatalf("kind %d, %d bytes: %d, %q, %d", kind, len(load), k, l, e)
			}
		}
	}
}

func TestOpenNothing(t *testing.T) {
	opensNot(t, "")
}

func TestOpenABytesLessOrMore(t *testing.T) {
	for _, load := range []string{"", "a", "abc", strings.Repeat("\x00", 9), text(255), text(256), text(504), text(505)} {
		s := sealed(5, load)
		for at := range s {
			opensNot(t, s[:at])
			opensNot(t, s[at+1:])
			opensNot(t, s[:at]+s[at+1:])
		}
		for b := range 256 {
			c := string([]byte{byte(b)})
			opensNot(t, s+c)
			opensNot(t, c+s)
		}
		for size := 1; size <= 600; size++ { // such as a sector that is filled up
			opensNot(t, s+strings.Repeat("\x00", size))
		}
	}
}

func TestOpenABitMore(t *testing.T) { // a byte more or less that the sum takes in, but not the count
	for _, load := range []string{"", "a", "abc", text(256), text(504)} {
		opensNot(t, summed(ahead(5, len(load), load+"\x00")))
		opensNot(t, summed(ahead(5, len(load)+1, load)))
		opensNot(t, summed(sealed(5, load)))
		if load != "" {
			opensNot(t, summed(ahead(5, len(load), load[1:])))
			opensNot(t, summed(ahead(5, len(load)-1, load)))
		}
	}
}

func TestOpenTwoPutTogether(t *testing.T) {
	all := []string{sealed(1, ""), sealed(127, ""), sealed(5, "abc"), sealed(6, text(200)), sealed(7, text(505)), sealed(8, strings.Repeat("\x00", 30))}
	for _, one := range all {
		for _, two := range all {
			opensNot(t, one+two)
			opensNot(t, one+"\x00"+two)
		}
	}
}

// Each kind and count that the bytes can tell, with the right sum: of each load there is one count.
func TestOpenEachCount(t *testing.T) {
	for _, load := range []string{"", "abc", text(256), text(505)} {
		for count := range 1 << 16 {
			s := summed(ahead(4, count, load))
			k, l, e := seal.Open(s)
			if count == len(load) && (k != 4 || l != load || e != api.OK) {
				t.Fatalf("%d bytes: %d, %q, %d", count, k, l, e)
			}
			if count != len(load) && (k != 0 || l != "" || e != api.ErrSeal) {
				t.Fatalf("%d bytes told as %d: %d, %q, %d", len(load), count, k, l, e)
			}
		}
	}
}

func TestOpenKindsThatAreNone(t *testing.T) {
	for _, load := range []string{"", "abc", text(505)} {
		opensNot(t, sealed(0, load))
		for kind := 128; kind <= 255; kind++ {
			opensNot(t, sealed(kind, load))
		}
	}
}

func TestOpenLoadsThatAreTooLong(t *testing.T) {
	for _, size := range []int{506, 507, 508, 512, 1000, 65535, 65536, 65537, 65536 + 3, 65536 + 505, 1 << 20} {
		opensNot(t, sealed(5, text(size)))
	}
}

func TestOpenSumsThatAreWrong(t *testing.T) {
	table := crc32.MakeTable(crc32.Castagnoli)
	for _, load := range []string{"", "abc", text(256), text(505)} {
		body := ahead(5, len(load), load)
		right := crc32.Checksum([]byte(body), table)
		for _, wrong := range []uint32{0, 1, ^uint32(0), ^right, right + 1, right - 1, right ^ 1<<31, crc32.ChecksumIEEE([]byte(body)), crc32.Checksum([]byte(load), table), crc32.Checksum([]byte(body[1:]), table), crc32.Checksum([]byte(body[:1]+load), table)} {
			opensNot(t, string(binary.LittleEndian.AppendUint32([]byte(body), wrong)))
		}
		opensNot(t, string(binary.BigEndian.AppendUint32([]byte(body), right)))
		opensNot(t, body)
		opensNot(t, body+"\x00\x00\x00\x00")
	}
}

// noSectors are texts of each length up to and past a sector's: of one byte again and again, and of any bytes.
func noSectors() []string {
	l := []string{"\x80\x00\x00", "\x01\x00\x00", "a sector", text(1 << 20)}
	for size := range 520 {
		l = append(l, text(size), strings.Repeat("\x00", size), strings.Repeat("\x01", size), strings.Repeat("\xff", size))
	}
	return l
}

func TestOpenTextsThatAreNoSectors(t *testing.T) {
	for _, s := range noSectors() {
		opensNot(t, s)
	}
}

// What is opened is what is sealed, and nothing else: of short texts of any kind and count, sealed rightly or not.
func TestOpenIsJustWhatSealMakes(t *testing.T) {
	for kind := range 256 {
		for count := range 6 {
			for size := range 6 {
				s := summed(ahead(kind, count, text(size)))
				k, l, e := seal.Open(s)
				if kind >= 1 && kind <= 127 && count == size {
					again, f := seal.Seal(k, l)
					if e != api.OK || f != api.OK || again != s {
						t.Fatalf("% x: %d, %q, %d", s, k, l, e)
					}
				} else if e != api.ErrSeal || k != 0 || l != "" {
					t.Fatalf("% x: %d, %q, %d", s, k, l, e)
				}
			}
		}
	}
}

// P3.1, Of.

func TestOfEachKindAskedOfEachKind(t *testing.T) {
	for kind := 1; kind <= 127; kind++ {
		for _, load := range []string{"", "abc", text(505)} {
			s := sealed(kind, load)
			for asked := -128; asked <= 127; asked++ {
				l, e := seal.Of(int8(asked), s)
				if asked == kind && (l != load || e != api.OK) {
					t.Fatalf("Of(%d) of %d bytes: %q, %d", asked, len(load), l, e)
				}
				if asked != kind && (l != "" || e != api.ErrSeal) {
					t.Fatalf("Of(%d) of kind %d: %q, %d", asked, kind, l, e)
				}
			}
		}
	}
}

func TestOfEachLoad(t *testing.T) {
	for _, load := range loads() {
		if l, e := seal.Of(77, sealed(77, load)); l != load || e != api.OK {
			t.Fatalf("%d bytes: %q, %d", len(load), l, e)
		}
	}
}

func TestOfTextsThatAreNoSectors(t *testing.T) {
	bad := append(noSectors(), sealed(5, text(506)), sealed(5, "abc")+"x", sealed(5, "abc")[:9], sealed(5, "")+sealed(5, ""))
	for _, s := range bad {
		for _, kind := range []int8{1, 5, 127, 0, -1, -128} {
			if l, e := seal.Of(kind, s); l != "" || e != api.ErrSeal {
				t.Fatalf("Of(%d) of %d bytes: %q, %d", kind, len(s), l, e)
			}
		}
	}
}

// A kind that is none is no more told where the bytes have just it.
func TestOfKindsThatAreNone(t *testing.T) {
	for kind := -128; kind <= 0; kind++ {
		for _, load := range []string{"", "abc"} {
			if l, e := seal.Of(int8(kind), sealed(kind, load)); l != "" || e != api.ErrSeal {
				t.Errorf("Of(%d): %q, %d", kind, l, e)
			}
		}
	}
}

// P3.2, Make.

func TestMakeByHand(t *testing.T) {
	for _, x := range []struct {
		kind   int8
		rest   string
		widths []int
		l      []int
		want   string
	}{
		{2, "rest", []int{1, 2, 6}, []int{7, 300, 1 << 40}, "\x02\x0d\x00\x07\x2c\x01\x00\x00\x00\x00\x00\x01rest\xbc\xd6\xb4\x23"},
		{2, "", []int{6}, []int{7}, sealed(2, "\x07\x00\x00\x00\x00\x00")},
		{9, "xy", []int{1}, []int{255}, sealed(9, "\xffxy")},
		{9, "\x00", []int{2, 2}, []int{1, 256}, sealed(9, "\x01\x00\x00\x01\x00")},
		{127, "z", []int{3, 1, 4, 5}, []int{0x030201, 9, 0xfffefdfc, 5}, sealed(127, "\x01\x02\x03\x09\xfc\xfd\xfe\xff\x05\x00\x00\x00\x00z")},
	} {
		if s, e := seal.Make(x.kind, x.rest, x.widths, x.l...); e != api.OK || s != x.want {
			t.Errorf("Make(%d, %q, %v, %v): % x, %d", x.kind, x.rest, x.widths, x.l, s, e)
		}
	}
}

func TestMakeEachWidthAtItsEdges(t *testing.T) {
	for width := 1; width <= 6; width++ {
		for _, n := range []int{0, 1, 127, 128, 255, greatest[width] / 3, greatest[width] - 1, greatest[width]} {
			for _, rest := range []string{"", "rest", text(505 - width)} {
				want := sealed(11, bytesOf(n, width)+rest)
				if s, e := seal.Make(11, rest, []int{width}, n); e != api.OK || s != want {
					t.Fatalf("Make(%d of width %d): % x, %d", n, width, s, e)
				}
			}
		}
	}
}

func TestMakeOfNoNumbersIsSealOfTheRest(t *testing.T) {
	for _, rest := range loads() {
		for _, widths := range [][]int{nil, {}} {
			if s, e := seal.Make(33, rest, widths); e != api.OK || s != sealed(33, rest) {
				t.Fatalf("%d bytes: % x, %d", len(rest), s, e)
			}
			if s, e := seal.Make(33, rest, widths, []int{}...); e != api.OK || s != sealed(33, rest) {
				t.Fatalf("%d bytes: % x, %d", len(rest), s, e)
			}
		}
	}
}

func TestMakeMoreWidthsThanNumbersAndTheOtherWayAbout(t *testing.T) {
	for widths := range 8 {
		for numbers := range 8 {
			w, l := slices.Repeat([]int{2}, widths), slices.Repeat([]int{5}, numbers)
			if widths != numbers {
				makesNot(t, 3, "rest", w, l...)
				continue
			}
			if s, e := seal.Make(3, "rest", w, l...); e != api.OK || s != sealed(3, strings.Repeat("\x05\x00", numbers)+"rest") {
				t.Fatalf("%d numbers: % x, %d", numbers, s, e)
			}
		}
	}
	makesNot(t, 3, "", nil, 0)
	makesNot(t, 3, "", []int{1})
	makesNot(t, 3, "", []int{0})
	makesNot(t, 3, "", []int{1, 0}, 1)
}

func TestMakeWidthsThatAreNone(t *testing.T) {
	for _, wrong := range noWidths {
		for _, n := range []int{0, 1, -1, 255, math.MaxInt, math.MinInt} {
			makesNot(t, 3, "rest", []int{wrong}, n)
			makesNot(t, 3, "", []int{wrong, 1, 2}, n, 1, 2)
			makesNot(t, 3, "", []int{1, wrong, 2}, 1, n, 2)
			makesNot(t, 3, "", []int{1, 2, wrong}, 1, 2, n)
		}
	}
}

func TestMakeNumbersThatDoNotFit(t *testing.T) {
	for width := 1; width <= 6; width++ {
		for _, wrong := range append([]int{greatest[width] + 1, greatest[width] + 2, 2 * greatest[width] * 256}, noNumbers...) {
			makesNot(t, 3, "rest", []int{width}, wrong)
			makesNot(t, 3, "", []int{width, 1, 2}, wrong, 1, 2)
			makesNot(t, 3, "", []int{1, width, 2}, 1, wrong, 2)
			makesNot(t, 3, "", []int{1, 2, width}, 1, 2, wrong)
		}
	}
	makesNot(t, 3, "", []int{1, 2}, 256, 1) // each of them would fit the other's
	makesNot(t, 3, "", []int{2, 1}, 1, 256)
}

func TestMakeWhatMayNotBeSealed(t *testing.T) {
	for _, kind := range noKinds {
		for _, rest := range []string{"", "rest", text(505), text(506)} {
			makesNot(t, kind, rest, nil)
			makesNot(t, kind, rest, []int{1, 2}, 1, 2)
		}
	}
	for _, size := range []int{506, 507, 512, 65535, 65536, 65536 + 3, 1 << 20} {
		makesNot(t, 3, text(size), nil)
		makesNot(t, 3, text(size), []int{1, 6}, 1, 2)
	}
}

// The load is at its most with the numbers' bytes and the rest together, whatever each has of it.
func TestMakeTheMostThatIsSealed(t *testing.T) {
	for width := 1; width <= 6; width++ {
		for many := range most/width + 1 {
			widths, l := slices.Repeat([]int{width}, many), make([]int, many)
			want := ""
			for i := range l {
				l[i] = (i*37 + 5) % 256
				want += bytesOf(l[i], width)
			}
			rest := text(most - width*many)
			if s, e := seal.Make(6, rest, widths, l...); e != api.OK || s != sealed(6, want+rest) || len(s) != api.SectorSize {
				t.Fatalf("%d numbers of width %d: %d bytes, %d", many, width, len(s), e)
			}
			makesNot(t, 6, rest+"x", widths, l...)
			makesNot(t, 6, rest, append(widths, 1), append(l, 0)...)
		}
	}
}

func TestMakeOfManyNumbersEnds(t *testing.T) {
	for _, many := range []int{506, 507, 65535, 65536, 65536 + 9, 1 << 20} {
		for width := 1; width <= 6; width++ {
			makesNot(t, 3, "", slices.Repeat([]int{width}, many), make([]int, many)...)
			makesNot(t, 3, text(600), slices.Repeat([]int{width}, many), make([]int, many)...)
		}
		makesNot(t, 3, "", slices.Repeat([]int{0}, many), make([]int, many)...)
		makesNot(t, 3, "", make([]int, many))
		makesNot(t, 3, "", nil, make([]int, many)...)
	}
}

// P3.2, Fields.

func TestFieldsByHand(t *testing.T) {
	s := "\x02\x0d\x00\x07\x2c\x01\x00\x00\x00\x00\x00\x01rest\xbc\xd6\xb4\x23"
	for _, x := range []struct {
		widths, want []int
		rest         string
	}{
		{[]int{1, 2, 6}, []int{7, 300, 1 << 40}, "rest"},
		{[]int{1, 2}, []int{7, 300}, "\x00\x00\x00\x00\x00\x01rest"},
		{[]int{2}, []int{0x2c07}, "\x01\x00\x00\x00\x00\x00\x01rest"},
		{[]int{3, 6}, []int{0x012c07, 1 << 40}, "rest"},
		{[]int{1, 2, 6, 1, 2}, []int{7, 300, 1 << 40, 'r', 's'<<8 + 'e'}, "t"},
		{[]int{1, 2, 6, 4}, []int{7, 300, 1 << 40, 0x74736572}, ""},
		{nil, nil, s[3:16]},
		{[]int{}, nil, s[3:16]},
	} {
		fieldsAre(t, 2, s, x.widths, x.want, x.rest)
	}
}

func TestFieldsEachWidthAtItsEdges(t *testing.T) {
	for width := 1; width <= 6; width++ {
		for _, n := range []int{0, 1, 127, 128, 255, greatest[width] / 3, greatest[width] - 1, greatest[width]} {
			for _, rest := range []string{"", "rest", text(505 - width)} {
				s := sealed(11, bytesOf(n, width)+rest)
				fieldsAre(t, 11, s, []int{width}, []int{n}, rest)
			}
		}
	}
}

func TestFieldsOfNoWidthsIsOf(t *testing.T) {
	for _, load := range loads() {
		for _, widths := range [][]int{nil, {}} {
			fieldsAre(t, 33, sealed(33, load), widths, nil, load)
		}
	}
}

func TestFieldsTheMostThatThereAre(t *testing.T) {
	s := sealed(7, text(505))
	widths, want := slices.Repeat([]int{1}, 505), make([]int, 505)
	for i := range want {
		want[i] = int(text(505)[i])
	}
	for many := range 506 {
		fieldsAre(t, 7, s, widths[:many], want[:many], text(505)[many:])
	}
	fieldsNot(t, 7, s, append(widths, 1)...)
}

func TestFieldsFewerBytesThanTheWidthsWant(t *testing.T) {
	for size := range 20 {
		s := sealed(7, strings.Repeat("\x00", size))
		for width := 1; width <= 6; width++ {
			for many := range 22 {
				widths := slices.Repeat([]int{width}, many)
				if width*many > size {
					fieldsNot(t, 7, s, widths...)
				} else {
					fieldsAre(t, 7, s, widths, make([]int, many), strings.Repeat("\x00", size-width*many))
				}
			}
		}
	}
	for _, widths := range [][]int{{6, 6, 6}, {1, 2, 6, 5}, {6, 6, 2}, {2, 6, 6}, {1, 2, 6, 4, 1}} {
		fieldsNot(t, 2, sealed(2, bytesOf(7, 1)+bytesOf(300, 2)+bytesOf(5, 6)+"rest"), widths...)
	}
}

// The widths want no bytes of the sum, nor of what stands behind it.
func TestFieldsTakesNothingOfTheSum(t *testing.T) {
	fieldsNot(t, 7, sealed(7, ""), 1)
	fieldsNot(t, 7, sealed(7, ""), 4)
	fieldsNot(t, 7, sealed(7, "a"), 2)
	fieldsNot(t, 7, sealed(7, "abc"), 3, 4)
}

func TestFieldsWidthsThatAreNone(t *testing.T) {
	for _, load := range []string{"", "\x01", text(13), strings.Repeat("\x00", 505)} {
		s := sealed(3, load)
		for _, wrong := range noWidths {
			fieldsNot(t, 3, s, wrong)
			fieldsNot(t, 3, s, wrong, 1)
			fieldsNot(t, 3, s, 1, wrong)
			fieldsNot(t, 3, s, 1, wrong, 2)
			fieldsNot(t, 3, s, 1, 2, wrong)
			fieldsNot(t, 3, s, wrong, wrong)
			fieldsNot(t, 3, s, 6, -wrong, wrong) // whatever they come to together
		}
		fieldsNot(t, 3, s, 6, -6)
		fieldsNot(t, 3, s, math.MaxInt, math.MaxInt, 2)
		fieldsNot(t, 3, s, math.MinInt, math.MinInt)
		fieldsNot(t, 3, s, 9, 9, 9)
	}
}

func TestFieldsBytesThatAreNoNumber(t *testing.T) {
	const good = "\x00\x00\x00\x00\x00\x01"
	for _, bad := range tooGreat {
		fieldsNot(t, 3, sealed(3, bad), 6)
		fieldsNot(t, 3, sealed(3, bad+"rest"), 6)
		fieldsNot(t, 3, sealed(3, bad+good+good), 6, 6, 6)
		fieldsNot(t, 3, sealed(3, good+bad+good), 6, 6, 6)
		fieldsNot(t, 3, sealed(3, good+good+bad), 6, 6, 6)
		fieldsNot(t, 3, sealed(3, "\x07"+bad), 1, 6)
		fieldsAre(t, 3, sealed(3, good+good+bad), []int{6, 6}, []int{1 << 40, 1 << 40}, bad) // what is left is a text
		fieldsAre(t, 3, sealed(3, bad), nil, nil, bad)
		fieldsAre(t, 3, sealed(3, bad), []int{5}, []int{int(bad[0]) + int(bad[1])<<8 + int(bad[2])<<16 + int(bad[3])<<24 + int(bad[4])<<32}, bad[5:])
	}
	fieldsAre(t, 3, sealed(3, good), []int{6}, []int{api.MaxNumber}, "")
}

func TestFieldsOfAnotherKind(t *testing.T) {
	for kind := 1; kind <= 127; kind++ {
		s := sealed(kind, "\x05\x06\x00")
		for asked := -128; asked <= 127; asked++ {
			if asked == kind {
				fieldsAre(t, int8(asked), s, []int{1, 2}, []int{5, 6}, "")
				continue
			}
			fieldsNot(t, int8(asked), s)
			fieldsNot(t, int8(asked), s, 1, 2)
			fieldsNot(t, int8(asked), s, 7)
		}
	}
	for _, kind := range noKinds {
		fieldsNot(t, kind, sealed(int(kind), "abc"))
		fieldsNot(t, kind, sealed(int(kind), "abc"), 1)
	}
}

func TestFieldsOfTextsThatAreNoSectors(t *testing.T) {
	good := sealed(5, "\x01\x02\x00rest")
	bad := append(noSectors(), good+"x", good[:len(good)-1], good[1:], good+good, sealed(5, text(506)), summed(ahead(5, 3, "\x01\x02\x00rest")))
	for _, s := range bad {
		for _, widths := range [][]int{nil, {1}, {1, 2}, {0}, {6, 6, 6}} {
			fieldsNot(t, 5, s, widths...)
			fieldsNot(t, 1, s, widths...)
			fieldsNot(t, 0, s, widths...)
		}
	}
}

func TestFieldsOfManyWidthsEnds(t *testing.T) {
	for _, many := range []int{506, 65536, 1 << 22} {
		for _, width := range []int{0, 1, 6, 7, -1} {
			widths := slices.Repeat([]int{width}, many)
			fieldsNot(t, 7, sealed(7, text(505)), widths...)
			fieldsNot(t, 7, sealed(7, ""), widths...)
			fieldsNot(t, 7, "", widths...)
		}
	}
}

// P3.3.

func TestOpenOfSealIsWhatWasSealed(t *testing.T) {
	for i, load := range loads() {
		kind := int8(i%127 + 1)
		s, e := seal.Seal(kind, load)
		k, l, f := seal.Open(s)
		if e != api.OK || f != api.OK || k != kind || l != load {
			t.Fatalf("Open of Seal(%d, %d bytes): %d, %q, %d, %d", kind, len(load), k, l, e, f)
		}
		if l, e := seal.Of(kind, s); l != load || e != api.OK {
			t.Fatalf("Of Seal(%d, %d bytes): %q, %d", kind, len(load), l, e)
		}
	}
}

func TestFieldsOfMakeIsWhatWasMade(t *testing.T) {
	for many := range 60 {
		widths, l, size := make([]int, many), make([]int, many), 0
		for i := range many {
			widths[i] = (i*i+many)%6 + 1
			l[i] = (i*0x0123456789 + many*7919) % (greatest[widths[i]] + 1)
			size += widths[i]
		}
		for _, rest := range []string{"", "x", "the rest", text(505 - size)} {
			kind := int8(many + 1)
			s, e := seal.Make(kind, rest, widths, l...)
			if e != api.OK {
				t.Fatalf("%d numbers, %d bytes: %d", many, size+len(rest), e)
			}
			fieldsAre(t, kind, s, widths, l, rest)
			again, e := seal.Make(kind, rest, widths, l...)
			if e != api.OK || again != s {
				t.Fatalf("% x, not % x", again, s)
			}
		}
	}
}

// harmed is s with the bits of harm turned about from that bit on, of each byte the lowest one first.
func harmed(s string, at int, harm uint32) string {
	b := []byte(s)
	for ; harm != 0; harm >>= 1 {
		if harm&1 != 0 {
			b[at/8] ^= 1 << (at % 8)
		}
		at++
	}
	return string(b)
}

// harms are ways to change up to so many bits side by side: each has its first bit.
func harms(bits int) []uint32 {
	l := []uint32{1}
	for size := 2; size <= bits; size++ {
		last := uint32(1) << (size - 1)
		l = append(l, last|1, last|(last-1), last|1|0x82F63B78&(last-1), last|1|0x5A3C96F1&(last-1))
	}
	return l
}

// harmEach changes bits from the one bit to ahead of the other, in each way that harms has, and asks that no sector comes of it.
func harmEach(t *testing.T, s string, from, to int) {
	t.Helper()
	for at := from; at < to; at++ {
		for _, harm := range harms(min(32, to-at)) {
			other := harmed(s, at, harm)
			if kind, load, e := seal.Open(other); e != api.ErrSeal || kind != 0 || load != "" {
				t.Fatalf("%d bytes, %08x from bit %d on: %d, %q, %d", len(s), harm, at, kind, load, e)
			}
			if _, e := seal.Of(int8(s[0]), other); e != api.ErrSeal {
				t.Fatalf("%d bytes, %08x from bit %d on: Of answers %d", len(s), harm, at, e)
			}
		}
	}
}

func TestHarmAheadOfTheSumIsTold(t *testing.T) {
	for _, s := range []string{sealed(1, ""), sealed(127, ""), sealed(5, "abc"), sealed(64, text(40)), sealed(2, strings.Repeat("\x00", 20))} {
		harmEach(t, s, 0, 8*(len(s)-4))
	}
}

func TestHarmInTheSumIsTold(t *testing.T) {
	for _, s := range []string{sealed(1, ""), sealed(127, ""), sealed(5, "abc"), sealed(64, text(505))} {
		harmEach(t, s, 8*(len(s)-4), 8*len(s))
	}
}

func TestHarmOfALongSectorIsTold(t *testing.T) {
	s := sealed(99, text(505))
	for at := range 8*508 - 31 {
		for _, harm := range []uint32{1, 1<<31 | 1, 0xFFFFFFFF, 0x82F63B79, 0x9E3779B1} {
			opensNot(t, harmed(s, at, harm))
		}
	}
}

func TestHarmOfOneByteAnywhereIsTold(t *testing.T) {
	for _, s := range []string{sealed(1, ""), sealed(5, "abc"), sealed(64, text(505))} {
		for at := range s {
			for harm := uint32(1); harm < 256; harm++ {
				opensNot(t, harmed(s, 8*at, harm))
			}
		}
	}
}

// R2: the sentences name one error each, whatever else is wrong; beside it all is zero.
func TestSeveralFaultsAnswerTheOneError(t *testing.T) {
	makesNot(t, 0, text(506), []int{0, 7}, -1)
	makesNot(t, -128, text(70000), []int{1, math.MinInt}, 256, -1)
	makesNot(t, 3, text(506), []int{1}, 256)
	makesNot(t, 0, "", []int{1, 1}, 1)
	for _, s := range []string{"", sealed(4, "\xff"), sealed(0, tooGreat[0]), sealed(4, tooGreat[1]) + "x"} {
		fieldsNot(t, 3, s, 6, 0, 6)
		fieldsNot(t, 0, s, math.MaxInt, 6)
	}
}

// R4.

func TestMakeLeavesWhatIsHandedIn(t *testing.T) {
	widths, l := []int{1, 2, 6, 77, 88}, []int{7, 300, 9, -5, -6}
	one, e := seal.Make(2, "rest", widths[:3], l[:3]...)
	two, f := seal.Make(2, "rest", widths[:4], l[:4]...)
	if e != api.OK || one != sealed(2, "\x07\x2c\x01\x09\x00\x00\x00\x00\x00rest") || f != api.ErrArg || two != "" {
		t.Errorf("% x, %d, % x, %d", one, e, two, f)
	}
	if !slices.Equal(widths, []int{1, 2, 6, 77, 88}) || !slices.Equal(l, []int{7, 300, 9, -5, -6}) {
		t.Error(widths, l)
	}
	clear(widths)
	clear(l)
	if one != sealed(2, "\x07\x2c\x01\x09\x00\x00\x00\x00\x00rest") {
		t.Errorf("% x", one)
	}
}

func TestFieldsAnswersNewMemory(t *testing.T) {
	s := sealed(2, "\x07\x2c\x01\x09\x00\x00\x00\x00\x00rest")
	whole := []int{1, 2, 6, 77, 88}
	one, _, e := seal.Fields(2, s, whole[:3]...)
	two, rest, f := seal.Fields(2, s, whole[:3]...)
	if e != api.OK || f != api.OK || !slices.Equal(one, []int{7, 300, 9}) {
		t.Fatal(one, e, f)
	}
	fieldsNot(t, 2, s, whole[:4]...)
	if !slices.Equal(whole, []int{1, 2, 6, 77, 88}) {
		t.Errorf("the widths were changed: %v", whole)
	}
	clear(one[:cap(one)])
	if !slices.Equal(whole, []int{1, 2, 6, 77, 88}) || !slices.Equal(two, []int{7, 300, 9}) {
		t.Errorf("an answer is somebody else's memory: %v %v", whole, two)
	}
	clear(whole)
	if !slices.Equal(two, []int{7, 300, 9}) || rest != "rest" {
		t.Errorf("an answer is what was handed in: %v %q", two, rest)
	}
	fieldsAre(t, 2, s, []int{1, 2, 6}, []int{7, 300, 9}, "rest")
}

// R3.

func TestEveryCallAnswersTheSameAgain(t *testing.T) {
	s := sealed(2, "\x07\x2c\x01rest")
	tell := func() string {
		one, e := seal.Seal(5, "abc")
		two, f := seal.Make(2, "rest", []int{1, 2}, 7, 300)
		kind, load, g := seal.Open(s)
		of, h := seal.Of(2, s)
		l, rest, i := seal.Fields(2, s, 1, 2)
		if e != api.OK || f != api.OK || g != api.OK || h != api.OK || i != api.OK || kind != 2 || !slices.Equal(l, []int{7, 300}) {
			t.Fatal(e, f, g, h, i, kind, l)
		}
		return strings.Join([]string{one, two, load, of, rest}, "|")
	}
	first := tell()
	for _, load := range append(loads(), text(506)) {
		seal.Seal(9, load)
		seal.Open(sealed(9, load))
		seal.Make(0, load, []int{1, 1}, 1)
		seal.Fields(9, sealed(9, load), 6, 6, 6)
	}
	if again := tell(); again != first || again != strings.Join([]string{sealed(5, "abc"), s, "\x07\x2c\x01rest", "\x07\x2c\x01rest", "rest"}, "|") {
		t.Errorf("%q, not %q", again, first)
	}
}
