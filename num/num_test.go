package num_test

import (
	"bytes"
	"math"
	"slices"
	"strings"
	"testing"

	"breakwater/api"
	"breakwater/num"
)

// The greatest number of each width, written out: what the program works out must come to these.
var greatest = [...]int{1: 255, 2: 65535, 3: 16777215, 4: 4294967295, 5: 1099511627775, 6: 1099511627776}

// No widths: the edges, numbers far out, and some that a narrower type would take for a width.
var noWidths = []int{0, 7, 8, -1, -2, -6, 64, 256 + 1, 1<<16 + 2, 1<<32 + 3, math.MaxInt, math.MinInt, math.MinInt + 1}

// Numbers that no width takes.
var noNumbers = []int{-1, -255, -256, api.MaxNumber + 1, 1<<41 - 1, 1<<48 - 1, 1 << 48, math.MaxInt, math.MinInt}

// bytesOf tells a number's bytes by division alone, so that it leans on nothing that the program does.
func bytesOf(n, width int) string {
	b := make([]byte, 0, width)
	for range width {
		b = append(b, byte(n%256))
		n /= 256
	}
	return string(b)
}

// samples are numbers of that width: its ends, each power of two with its neighbours, and bytes that all differ.
func samples(width int) []int {
	l := []int{0, 1, greatest[width] - 1, greatest[width], 0x0605040302 % greatest[width], 0xfedcba9876 % greatest[width]}
	for bit := range 41 {
		for _, n := range []int{1<<bit - 1, 1 << bit, 1<<bit + 1} {
			if n <= greatest[width] {
				l = append(l, n)
			}
		}
	}
	return l
}

func TestErrorNumbers(t *testing.T) {
	if api.OK != 0 || api.ErrArg != 2 || api.ErrNumber != 10 {
		t.Error(api.OK, api.ErrArg, api.ErrNumber)
	}
	if api.MaxNumber != 1099511627776 {
		t.Error(api.MaxNumber)
	}
}

// P1.1, Fits.

func TestFitsAtTheEdgesOfEachWidth(t *testing.T) {
	for width := 1; width <= 6; width++ {
		for _, n := range samples(width) {
			if !num.Fits(n, width) {
				t.Errorf("%d does not fit width %d", n, width)
			}
		}
		for _, n := range append([]int{greatest[width] + 1, greatest[width] + 2, greatest[width] * 2}, noNumbers...) {
			if num.Fits(n, width) {
				t.Errorf("%d fits width %d", n, width)
			}
		}
	}
}

func TestFitsEveryNumberOfTwoBytes(t *testing.T) {
	for n := -70000; n <= 70000; n++ {
		for width := 1; width <= 2; width++ {
			if got, want := num.Fits(n, width), 0 <= n && n <= greatest[width]; got != want {
				t.Fatalf("Fits(%d, %d) is %v", n, width, got)
			}
		}
	}
}

func TestFitsOfNoWidth(t *testing.T) {
	for _, width := range noWidths {
		for _, n := range append([]int{0, 1, 255, api.MaxNumber}, noNumbers...) {
			if num.Fits(n, width) {
				t.Errorf("Fits(%d, %d)", n, width)
			}
		}
	}
}

// P1.1, Put.

func TestPutBytes(t *testing.T) {
	for _, x := range []struct {
		before string
		width  int
		l      []int
		want   string
	}{
		{"", 2, []int{1, 256}, "\x01\x00\x00\x01"},
		{"", 1, []int{0, 1, 127, 128, 255}, "\x00\x01\x7f\x80\xff"},
		{"ab", 3, []int{0x030201}, "ab\x01\x02\x03"},
		{"", 4, []int{0xfffefdfc, 5}, "\xfc\xfd\xfe\xff\x05\x00\x00\x00"},
		{"", 5, []int{1<<40 - 1}, "\xff\xff\xff\xff\xff"},
		{"", 6, []int{api.MaxNumber, 1}, "\x00\x00\x00\x00\x00\x01\x01\x00\x00\x00\x00\x00"},
		{"\x00", 2, []int{7, 7, 7}, "\x00\x07\x00\x07\x00\x07\x00"},
	} {
		b, e := num.Put([]byte(x.before), x.width, x.l...)
		if e != api.OK || string(b) != x.want {
			t.Errorf("Put(%q, %d, %v): % x, %d", x.before, x.width, x.l, b, e)
		}
	}
}

func TestPutEachNumberBehindWhatThereIs(t *testing.T) {
	for width := 1; width <= 6; width++ {
		for _, n := range samples(width) {
			b, e := num.Put([]byte("ahead"), width, n)
			if want := "ahead" + bytesOf(n, width); e != api.OK || string(b) != want {
				t.Errorf("Put(ahead, %d, %d): % x, %d", width, n, b, e)
			}
		}
	}
}

func TestPutNoNumbers(t *testing.T) {
	for width := 1; width <= 6; width++ {
		for _, before := range []string{"", "x", "several bytes"} {
			b, e := num.Put([]byte(before), width)
			if e != api.OK || string(b) != before {
				t.Errorf("Put(%q, %d): %q, %d", before, width, b, e)
			}
		}
		if b, e := num.Put(nil, width); e != api.OK || len(b) != 0 {
			t.Errorf("Put(nil, %d): %q, %d", width, b, e)
		}
	}
}

func TestPutOfNoWidth(t *testing.T) {
	for _, width := range noWidths {
		for _, l := range [][]int{nil, {}, {0}, {1, 2}, {-1}} {
			for _, before := range []string{"", "x"} {
				if b, e := num.Put([]byte(before), width, l...); e != api.ErrArg || len(b) != 0 {
					t.Errorf("Put(%q, %d, %v): %q, %d", before, width, l, b, e)
				}
			}
		}
	}
}

func TestPutWhatDoesNotFit(t *testing.T) {
	for width := 1; width <= 6; width++ {
		for _, wrong := range append([]int{greatest[width] + 1}, noNumbers...) {
			for _, l := range [][]int{{wrong}, {wrong, 1, 2}, {1, wrong, 2}, {1, 2, wrong}} {
				if b, e := num.Put([]byte("x"), width, l...); e != api.ErrArg || len(b) != 0 {
					t.Errorf("Put(x, %d, %v): %q, %d", width, l, b, e)
				}
			}
		}
	}
}

func TestPutAnswersNewMemory(t *testing.T) {
	for _, l := range [][]int{nil, {1}, {1, 2, 3}} {
		whole := []byte("ab--------------")
		b, e := num.Put(whole[:2], 2, l...)
		if e != api.OK {
			t.Fatal(e)
		}
		if string(whole) != "ab--------------" {
			t.Errorf("Put of %v wrote behind what was handed in: %q", l, whole)
		}
		b[0] = 'z'
		if whole[0] != 'a' {
			t.Errorf("Put of %v answers what was handed in", l)
		}
		full := b[:cap(b)]
		for i := range full {
			full[i] = '!'
		}
		if string(whole) != "ab--------------" {
			t.Errorf("the answer of %v has room that was handed in: %q", l, whole)
		}
	}
}

func TestPutAnswersShareNoMemory(t *testing.T) {
	start := []byte("s")
	one, _ := num.Put(start, 1, 1)
	two, _ := num.Put(start, 1, 2)
	three, _ := num.Put(one, 1, 3)
	four, _ := num.Put(one, 1, 4)
	if string(one) != "s\x01" || string(two) != "s\x02" || string(three) != "s\x01\x03" || string(four) != "s\x01\x04" {
		t.Errorf("%q %q %q %q", one, two, three, four)
	}
	clear(three)
	if string(one) != "s\x01" || string(four) != "s\x01\x04" {
		t.Errorf("%q %q", one, four)
	}
}

func TestPutLeavesTheNumbers(t *testing.T) {
	whole := []int{3, 70, 255, 9, 9}
	b, e := num.Put(nil, 1, whole[:3]...)
	if e != api.OK || string(b) != "\x03\x46\xff" || !slices.Equal(whole, []int{3, 70, 255, 9, 9}) {
		t.Error(b, e, whole)
	}
	whole[0] = 4
	if string(b) != "\x03\x46\xff" {
		t.Error(b)
	}
}

// P1.2, Get.

func TestGetNumbers(t *testing.T) {
	const s = "\x01\x02\x80\xff\x00\x01\x00"
	for _, x := range []struct{ at, width, want int }{
		{0, 2, 513}, {0, 1, 1}, {1, 1, 2}, {2, 1, 128}, {3, 1, 255}, {2, 2, 65408}, {3, 2, 255},
		{0, 3, 0x800201}, {0, 4, 0xff800201}, {0, 5, 0xff800201}, {1, 6, 0x0100ff8002}, {6, 1, 0}, {5, 2, 1},
	} {
		if n, e := num.Get(s, x.at, x.width); n != x.want || e != api.OK {
			t.Errorf("Get at %d of width %d: %d, %d", x.at, x.width, n, e)
		}
	}
}

func TestGetEachNumberInTheMidst(t *testing.T) {
	for width := 1; width <= 6; width++ {
		for _, n := range samples(width) {
			for _, around := range []string{"", "\xff", "\x00\x00\x00", "\xff\xff\xff\xff\xff\xff\xff"} {
				s := around + bytesOf(n, width) + around
				if got, e := num.Get(s, len(around), width); got != n || e != api.OK {
					t.Errorf("Get(% x, %d, %d): %d, %d", s, len(around), width, got, e)
				}
			}
		}
	}
}

func TestGetWhereThereAreTooFewBytes(t *testing.T) {
	for width := 1; width <= 6; width++ {
		for size := range 14 {
			s := strings.Repeat("\x00", size)
			for at := -15; at <= 15; at++ {
				want := api.OK
				if at < 0 || at+width > size {
					want = api.ErrNumber
				}
				if n, e := num.Get(s, at, width); n != 0 || e != want {
					t.Errorf("Get of %d bytes at %d of width %d: %d, %d", size, at, width, n, e)
				}
			}
			for _, at := range []int{math.MaxInt, math.MaxInt - 1, math.MaxInt - width, math.MaxInt - width + 1, math.MinInt, math.MinInt + 1, math.MinInt + size, 1 << 32, -1 << 32} {
				if n, e := num.Get(s, at, width); n != 0 || e != api.ErrNumber {
					t.Errorf("Get of %d bytes at %d of width %d: %d, %d", size, at, width, n, e)
				}
			}
		}
	}
}

func TestGetAnswersNoPartOfANumber(t *testing.T) {
	const s = "\x01\x02\x03"
	for _, x := range []struct{ at, width int }{{3, 1}, {2, 2}, {1, 3}, {0, 4}, {-1, 1}, {-1, 4}, {-3, 3}, {2, 6}} {
		if n, e := num.Get(s, x.at, x.width); n != 0 || e != api.ErrNumber {
			t.Errorf("Get at %d of width %d: %d, %d", x.at, x.width, n, e)
		}
	}
}

func TestGetOfNoWidth(t *testing.T) {
	for _, width := range noWidths {
		for _, s := range []string{"", "a", "12345678901234567890"} {
			for _, at := range []int{0, 1, -1, 20, 21, math.MaxInt, math.MinInt} {
				if n, e := num.Get(s, at, width); n != 0 || e != api.ErrArg {
					t.Errorf("Get(%q, %d, %d): %d, %d", s, at, width, n, e)
				}
			}
		}
	}
}

// tooGreat are six bytes each that are more than MaxNumber.
var tooGreat = []string{"\x01\x00\x00\x00\x00\x01", "\x00\x00\x00\x00\x01\x01", "\x00\x00\x00\x00\x00\x02", "\x00\x00\x00\x00\x00\x80", "\xff\xff\xff\xff\xff\xff"}

func TestGetMoreThanMaxNumber(t *testing.T) {
	for _, s := range tooGreat {
		for _, around := range []string{"", "\x00", "\x00\x00\x00\x00\x00\x00"} {
			if n, e := num.Get(around+s+around, len(around), 6); n != 0 || e != api.ErrNumber {
				t.Errorf("Get(% x): %d, %d", s, n, e)
			}
		}
	}
	if n, e := num.Get("\x00\x00\x00\x00\x00\x01", 0, 6); n != api.MaxNumber || e != api.OK {
		t.Error(n, e)
	}
}

// P1.2, Row.

func TestRowNumbers(t *testing.T) {
	for _, x := range []struct {
		s     string
		width int
		want  []int
	}{
		{"\x01\x00\x00\x01", 2, []int{1, 256}},
		{"\x01\x00\x80\xff", 1, []int{1, 0, 128, 255}},
		{"\x01\x02\x03\x04\x05\x06", 3, []int{0x030201, 0x060504}},
		{"\xff\xff\xff\xff", 4, []int{1<<32 - 1}},
		{"\xff\xff\xff\xff\xff\x00\x00\x00\x00\x80", 5, []int{1<<40 - 1, 1 << 39}},
		{"\x00\x00\x00\x00\x00\x01\xff\xff\xff\xff\xff\x00", 6, []int{1 << 40, 1<<40 - 1}},
	} {
		if l, e := num.Row(x.s, x.width); e != api.OK || !slices.Equal(l, x.want) {
			t.Errorf("Row(% x, %d): %v, %d", x.s, x.width, l, e)
		}
	}
}

func TestRowOfNothing(t *testing.T) {
	for width := 1; width <= 6; width++ {
		if l, e := num.Row("", width); e != api.OK || len(l) != 0 {
			t.Errorf("Row of nothing, width %d: %v, %d", width, l, e)
		}
	}
}

func TestRowThatEndsInTheMidst(t *testing.T) {
	for width := 1; width <= 6; width++ {
		for size := range 40 {
			l, e := num.Row(strings.Repeat("\x00", size), width)
			if size%width != 0 && (e != api.ErrNumber || len(l) != 0) {
				t.Errorf("Row of %d bytes, width %d: %v, %d", size, width, l, e)
			}
			if size%width == 0 && (e != api.OK || !slices.Equal(l, make([]int, size/width))) {
				t.Errorf("Row of %d bytes, width %d: %v, %d", size, width, l, e)
			}
		}
	}
}

func TestRowOfNoWidth(t *testing.T) {
	for _, width := range noWidths {
		for _, s := range []string{"", "a", "abcdefg", "12345678", strings.Repeat("\xff", 257)} {
			if l, e := num.Row(s, width); e != api.ErrArg || len(l) != 0 {
				t.Errorf("Row(%q, %d): %v, %d", s, width, l, e)
			}
		}
	}
}

func TestRowWithMoreThanMaxNumber(t *testing.T) {
	const good = "\x00\x00\x00\x00\x00\x01"
	for _, s := range tooGreat {
		for _, row := range []string{s, s + good, good + s, good + s + good, good + good + s, s + s} {
			if l, e := num.Row(row, 6); e != api.ErrNumber || len(l) != 0 {
				t.Errorf("Row(% x): %v, %d", row, l, e)
			}
		}
	}
	if l, e := num.Row(good+good, 6); e != api.OK || !slices.Equal(l, []int{api.MaxNumber, api.MaxNumber}) {
		t.Error(l, e)
	}
}

func TestRowAnswersNewMemory(t *testing.T) {
	const s = "\x05\x00\x06\x00\x07\x00"
	first, _ := num.Row(s, 2)
	second, _ := num.Row(s, 2)
	clear(first[:cap(first)])
	if !slices.Equal(second, []int{5, 6, 7}) {
		t.Error(second)
	}
	if third, e := num.Row(s, 2); e != api.OK || !slices.Equal(third, []int{5, 6, 7}) {
		t.Error(third, e)
	}
}

// P1.3.

func TestRowOfPutAndPutOfRow(t *testing.T) {
	for width := 1; width <= 6; width++ {
		all := samples(width)
		for size := range len(all) + 1 {
			l := all[:size]
			want := ""
			for _, n := range l {
				want += bytesOf(n, width)
			}
			b, e := num.Put(nil, width, l...)
			if e != api.OK || string(b) != want {
				t.Fatalf("Put of %v, width %d: % x, %d", l, width, b, e)
			}
			back, e := num.Row(string(b), width)
			if e != api.OK || !slices.Equal(back, l) {
				t.Fatalf("Row of Put of %v, width %d: %v, %d", l, width, back, e)
			}
			again, e := num.Put(nil, width, back...)
			if e != api.OK || !bytes.Equal(again, b) {
				t.Fatalf("Put of Row of % x, width %d: % x, %d", b, width, again, e)
			}
		}
	}
}

func TestPutOfRowOfAnyBytes(t *testing.T) {
	for width := 1; width <= 6; width++ {
		for seed := range 200 {
			b := make([]byte, width*(seed%7))
			x := uint32(seed*2654435761 + width)
			for i := range b {
				x = x*1664525 + 1013904223
				b[i] = byte(x >> 24)
				if width == 6 && i%6 == 5 { // else nearly all would be more than MaxNumber
					b[i] = 0
				}
			}
			l, e := num.Row(string(b), width)
			if e != api.OK || len(l)*width != len(b) {
				t.Fatalf("Row of % x, width %d: %v, %d", b, width, l, e)
			}
			back, e := num.Put(nil, width, l...)
			if e != api.OK || !bytes.Equal(back, b) {
				t.Fatalf("Put of Row of % x, width %d: % x, %d", b, width, back, e)
			}
			for i, n := range l {
				if got, e := num.Get(string(b), i*width, width); got != n || e != api.OK || !num.Fits(n, width) {
					t.Fatalf("Get of % x at %d, width %d: %d, %d", b, i*width, width, got, e)
				}
			}
		}
	}
}

func TestLongRow(t *testing.T) {
	for width := 1; width <= 6; width++ {
		l := make([]int, 100000)
		for i := range l {
			l[i] = i * 7919 % (greatest[width] + 1)
		}
		b, e := num.Put(nil, width, l...)
		if e != api.OK || len(b) != width*len(l) {
			t.Fatal(width, len(b), e)
		}
		back, e := num.Row(string(b), width)
		if e != api.OK || !slices.Equal(back, l) {
			t.Fatal(width, len(back), e)
		}
	}
}
