package crc_test

import (
	"bytes"
	"hash/crc32"
	"math"
	"slices"
	"strings"
	"testing"

	"breakwater/crc"
)

const rest = 1 << 32

// published is the sum as Go's own library has it.
func published(b []byte) int {
	return int(crc32.Checksum(b, crc32.MakeTable(crc32.Castagnoli)))
}

// movedBit and movedBackBit say the chapter's words alone: division, and turning about where 82F63B78 has ones.
func movedBit(x uint32) uint32 {
	if x%2 == 1 {
		return x/2 ^ 0x82F63B78
	}
	return x / 2
}

func movedBackBit(x uint32) uint32 {
	if x >= 1<<31 { // 82F63B78 has the highest bit, so a 1 was taken off
		return (x^0x82F63B78)*2 + 1
	}
	return x * 2
}

func moved(x, n int, bit func(uint32) uint32) int {
	y := uint32(x)
	for range max(n, 0) * 8 {
		y = bit(y)
	}
	return int(y)
}

// mixer makes bytes and numbers that follow no plain rule, the same ones each time.
type mixer uint64

func (m *mixer) next() uint64 {
	*m = *m*6364136223846793005 + 1442695040888963407
	return uint64(*m) ^ uint64(*m)>>29
}

func (m *mixer) row(size int) []byte {
	b := make([]byte, size)
	for i := range b {
		b[i] = byte(m.next() >> 24)
	}
	return b
}

func (m *mixer) number() int { return int(uint32(m.next() >> 16)) }

// numbers are the edges from 0 to 2^32 - 1, each bit alone, all but each, and some between.
func numbers() []int {
	l := []int{0, rest - 1, 0xE3069283, 0x82F63B78, 0x1EDC6F41, 12345678}
	for bit := range 32 {
		l = append(l, 1<<bit, rest-1-1<<bit, 1<<bit-1)
	}
	var m mixer = 5
	for range 30 {
		l = append(l, m.number())
	}
	return l
}

// beyond are numbers of which the rest by 2^32 is x, each of them below 0 or from 2^32 on.
func beyond(x int) []int {
	return []int{x + rest, x - rest, x + 5*rest, x - 5*rest, x + 1<<62, x - 1<<62, x + math.MaxInt - (rest - 1), x + math.MinInt}
}

// rows are bytes of many lengths: none, each byte alone, and some that stand at the edges of words.
func rows() [][]byte {
	l := [][]byte{nil, {}, []byte("123456789"), []byte("some bytes"), make([]byte, 32), bytes.Repeat([]byte{255}, 32)}
	for b := range 256 {
		l = append(l, []byte{byte(b)})
	}
	var m mixer = 11
	for size := range 70 {
		l = append(l, m.row(size), make([]byte, size))
	}
	return append(l, m.row(505), m.row(512), m.row(65536))
}

// P2.1, Sum.

func TestSumExamples(t *testing.T) {
	for _, x := range []struct {
		s    string
		want int
	}{
		{"", 0}, {"123456789", 0xE3069283},
		{"a", 0xC1D04330}, {"abc", 0x364B3FB7},
		{strings.Repeat("\x00", 32), 0x8A9136AA}, {strings.Repeat("\xff", 32), 0x62A8AB43},
	} {
		if got := crc.Sum([]byte(x.s)); got != x.want {
			t.Errorf("Sum(%q) is %x, not %x", x.s, got, x.want)
		}
	}
}

func TestSumOfNoBytes(t *testing.T) {
	if crc.Sum(nil) != 0 || crc.Sum([]byte{}) != 0 || crc.Sum([]byte("abc")[:0]) != 0 {
		t.Error(crc.Sum(nil), crc.Sum([]byte{}))
	}
}

func TestSumIsAsPublished(t *testing.T) {
	for _, b := range rows() {
		if got, want := crc.Sum(b), published(b); got != want {
			t.Errorf("Sum of %d bytes is %x, not %x", len(b), got, want)
		}
	}
}

func TestSumOfEveryTwoBytes(t *testing.T) {
	table := crc32.MakeTable(crc32.Castagnoli)
	for n := range 1 << 16 {
		b := []byte{byte(n), byte(n >> 8)}
		if got, want := crc.Sum(b), int(crc32.Checksum(b, table)); got != want {
			t.Fatalf("Sum(% x) is %x, not %x", b, got, want)
		}
	}
}

func TestSumIsANumberOfFourBytes(t *testing.T) {
	high := false
	for _, b := range rows() {
		got := crc.Sum(b)
		if got < 0 || got >= rest {
			t.Errorf("Sum of %d bytes is %d", len(b), got)
		}
		high = high || got >= 1<<31
	}
	if !high {
		t.Error("no row has a sum from 2^31 on")
	}
}

// P2.1, Add.

func TestAddAtEachPlace(t *testing.T) {
	var m mixer = 3
	for size := range 60 {
		b := m.row(size)
		for at := range size + 1 {
			if got, want := crc.Add(crc.Sum(b[:at]), b[at:]...), published(b); got != want {
				t.Fatalf("%d bytes, added from %d on: %x, not %x", size, at, got, want)
			}
		}
	}
}

func TestAddByteByByte(t *testing.T) {
	var m mixer = 4
	b := m.row(600)
	sum := 0
	for i, c := range b {
		sum = crc.Add(sum, c)
		if want := published(b[:i+1]); sum != want {
			t.Fatalf("%d bytes: %x, not %x", i+1, sum, want)
		}
	}
	if crc.Add(crc.Sum([]byte("1")), '2', '3', '4', '5', '6', '7', '8', '9') != 0xE3069283 {
		t.Error("the digits")
	}
}

func TestAddNothing(t *testing.T) {
	for _, x := range numbers() {
		if crc.Add(x) != x || crc.Add(x, []byte{}...) != x {
			t.Errorf("Add(%x) is %x", x, crc.Add(x))
		}
		for _, y := range beyond(x) {
			if got := crc.Add(y); got != x {
				t.Errorf("Add(%d) is %x, not %x", y, got, x)
			}
		}
	}
}

func TestAddToAnyNumber(t *testing.T) {
	table := crc32.MakeTable(crc32.Castagnoli)
	for _, x := range numbers() {
		for _, l := range [][]byte{{0}, {1}, {0x80}, {0xff}, []byte("several")} {
			want := int(crc32.Update(uint32(x), table, l))
			if got := crc.Add(x, l...); got != want {
				t.Errorf("Add(%x, % x) is %x, not %x", x, l, got, want)
			}
			for _, y := range beyond(x) {
				if got := crc.Add(y, l...); got != want {
					t.Errorf("Add(%d, % x) is %x, not %x", y, l, got, want)
				}
			}
		}
	}
}

// P2.2, Move and Back.

func TestMoveByHand(t *testing.T) {
	for _, x := range []struct{ x, n, want int }{
		{0, 1, 0}, {0x100, 1, 1}, {0x12345600, 1, 0x123456}, {0x80, 1, 0x82F63B78}, {1, 1, 0xF26B8303}, {0x12340000, 2, 0x1234}, {0x80 << 24, 4, 0x82F63B78}, {0x80 << 16, 3, 0x82F63B78},
	} {
		if got := crc.Move(x.x, x.n); got != x.want {
			t.Errorf("Move(%x, %d) is %x, not %x", x.x, x.n, got, x.want)
		}
		if got := crc.Back(x.want, x.n); got != x.x {
			t.Errorf("Back(%x, %d) is %x, not %x", x.want, x.n, got, x.x)
		}
	}
}

func TestMoveAndBackBitByBit(t *testing.T) {
	sizes := []int{0, 1, 2, 3, 4, 5, 7, 8, 31, 32, 33, 100, 255, 256, 257, 505, 512}
	for _, x := range numbers() {
		for _, n := range sizes {
			if got, want := crc.Move(x, n), moved(x, n, movedBit); got != want {
				t.Errorf("Move(%x, %d) is %x, not %x", x, n, got, want)
			}
			if got, want := crc.Back(x, n), moved(x, n, movedBackBit); got != want {
				t.Errorf("Back(%x, %d) is %x, not %x", x, n, got, want)
			}
		}
	}
}

func TestMoveAndBackByTheMostThatIsAsked(t *testing.T) {
	for _, x := range []int{0, 1, 1 << 31, rest - 1, 0xE3069283, 12345678} {
		for _, n := range []int{1<<16 - 1, 1 << 16, 40000} {
			if got, want := crc.Move(x, n), moved(x, n, movedBit); got != want {
				t.Errorf("Move(%x, %d) is %x, not %x", x, n, got, want)
			}
			if got, want := crc.Back(x, n), moved(x, n, movedBackBit); got != want {
				t.Errorf("Back(%x, %d) is %x, not %x", x, n, got, want)
			}
		}
	}
}

func TestMoveAndBackByEachNumberOfBytes(t *testing.T) {
	const x = 0xE3069283
	forth, back := uint32(x), uint32(x)
	for n := range 1<<16 + 1 {
		if crc.Move(x, n) != int(forth) || crc.Back(x, n) != int(back) {
			t.Fatalf("by %d: %x %x, not %x %x", n, crc.Move(x, n), crc.Back(x, n), forth, back)
		}
		for range 8 {
			forth, back = movedBit(forth), movedBackBit(back)
		}
	}
}

func TestMoveAndBackByNothingAndLess(t *testing.T) {
	for _, x := range numbers() {
		for _, n := range []int{0, -1, -2, -8, -rest, -rest + 1, math.MinInt, math.MinInt + 1} {
			if crc.Move(x, n) != x || crc.Back(x, n) != x {
				t.Errorf("%x, %d: %x %x", x, n, crc.Move(x, n), crc.Back(x, n))
			}
		}
	}
}

func TestMoveAndBackOfNumbersBeyond(t *testing.T) {
	for _, x := range numbers() {
		for _, y := range beyond(x) {
			for _, n := range []int{-1, 0, 1, 5} {
				if got, want := crc.Move(y, n), moved(x, n, movedBit); got != want {
					t.Errorf("Move(%d, %d) is %x, not %x", y, n, got, want)
				}
				if got, want := crc.Back(y, n), moved(x, n, movedBackBit); got != want {
					t.Errorf("Back(%d, %d) is %x, not %x", y, n, got, want)
				}
			}
		}
	}
	if crc.Move(-1, 0) != rest-1 || crc.Back(-1, 0) != rest-1 {
		t.Error(crc.Move(-1, 0), crc.Back(-1, 0))
	}
}

// R1: however many bytes are asked, the call ends. Castagnoli's powers come round behind 2^31 - 1 bits, and so behind as many bytes.
func TestMoveAndBackByManyBytesEnd(t *testing.T) {
	const round = 1<<31 - 1
	for _, x := range []int{0, 1, 1 << 31, rest - 1, 0xE3069283} {
		for _, n := range []int{1 << 20, 1<<31 - 2, round, 1 << 31, 1 << 32, 1 << 40, 1 << 60, 1<<61 + 3, 1 << 62, math.MaxInt - 1, math.MaxInt} {
			if got, want := crc.Move(x, n), crc.Move(x, n%round); got != want {
				t.Errorf("Move(%x, %d) is %x, not %x", x, n, got, want)
			}
			if got := crc.Back(crc.Move(x, n), n); got != x {
				t.Errorf("Back of Move(%x, %d) is %x", x, n, got)
			}
		}
		if crc.Move(x, round) != x || crc.Back(x, round) != x || crc.Move(x, round-9) != crc.Back(x, 9) {
			t.Errorf("%x does not come round", x)
		}
	}
}

// P2.2, Both.

func TestBothOfTwoRows(t *testing.T) {
	all := rows()
	for i, a := range all {
		for _, b := range [][]byte{all[(i*7+3)%len(all)], []byte("and others"), {0}} {
			want := published(slices.Concat(a, b))
			if got := crc.Both(published(a), published(b), len(b)); got != want {
				t.Errorf("Both of %d and %d bytes is %x, not %x", len(a), len(b), got, want)
			}
		}
	}
}

func TestBothByHand(t *testing.T) {
	if got := crc.Both(crc.Sum([]byte("1234")), crc.Sum([]byte("56789")), 5); got != 0xE3069283 {
		t.Errorf("%x", got)
	}
	if got := crc.Both(crc.Sum(make([]byte, 16)), crc.Sum(make([]byte, 16)), 16); got != 0x8A9136AA {
		t.Errorf("%x", got)
	}
}

func TestBothWhereARowHasNoBytes(t *testing.T) {
	for _, x := range numbers() {
		if got := crc.Both(x, 0, 0); got != x {
			t.Errorf("Both(%x, 0, 0) is %x", x, got)
		}
	}
	for _, b := range rows() {
		if got := crc.Both(0, published(b), len(b)); got != published(b) {
			t.Errorf("Both(0, %x, %d) is %x", published(b), len(b), got)
		}
	}
	if crc.Both(0, 0, 0) != 0 {
		t.Error(crc.Both(0, 0, 0))
	}
}

func TestBothOfNumbersBeyond(t *testing.T) {
	b := []byte("and others")
	for _, a := range rows()[:80] {
		want := published(slices.Concat(a, b))
		for _, x := range beyond(published(a)) {
			for _, y := range append(beyond(published(b)), published(b)) {
				if got := crc.Both(x, y, len(b)); got != want {
					t.Fatalf("Both(%d, %d, %d) is %x, not %x", x, y, len(b), got, want)
				}
			}
		}
	}
}

func TestBothOfLessThanNoBytesIsOfNone(t *testing.T) {
	for _, n := range []int{-1, -7, -rest, math.MinInt} {
		for _, a := range numbers() {
			if got := crc.Both(a, 0, n); got != a {
				t.Errorf("Both(%x, 0, %d) is %x", a, n, got)
			}
			for _, b := range []int{1, 1 << 31, rest - 1, -1, 7 * rest} {
				if got, want := crc.Both(a, b, n), crc.Both(a, b, 0); got != want {
					t.Errorf("Both(%x, %x, %d) is %x, not %x", a, b, n, got, want)
				}
			}
		}
	}
}

func TestBothOfManyBytesEnds(t *testing.T) {
	for _, n := range []int{1 << 31, 1 << 40, 1 << 62, math.MaxInt} {
		for _, a := range []int{0, 1, rest - 1, -5} {
			if got, want := crc.Both(a, 0, n), crc.Move(a, n); got != want {
				t.Errorf("Both(%d, 0, %d) is %x, not %x", a, n, got, want)
			}
		}
	}
}

// P2.3, Close.

func TestCloseMakesTheSum(t *testing.T) {
	for _, b := range rows() {
		for _, want := range []int{0, 1, 0xE3069283, 1 << 31, rest - 1, published(b)} {
			c := crc.Close(b, want)
			if len(c) != 4 || published(slices.Concat(b, c)) != want {
				t.Errorf("Close of %d bytes to %x: % x", len(b), want, c)
			}
		}
	}
}

func TestCloseOfNoBytes(t *testing.T) {
	for _, want := range numbers() {
		for _, b := range [][]byte{nil, {}} {
			if c := crc.Close(b, want); len(c) != 4 || published(c) != want {
				t.Errorf("Close of nothing to %x: % x", want, c)
			}
		}
	}
	if c := crc.Close(nil, published([]byte("abcd"))); string(c) != "abcd" { // there are no other four
		t.Errorf("%q", c)
	}
}

func TestCloseFindsTheFourThatThereWere(t *testing.T) {
	var m mixer = 8
	for size := 4; size < 80; size++ {
		b := m.row(size)
		if c := crc.Close(b[:size-4], published(b)); !bytes.Equal(c, b[size-4:]) {
			t.Errorf("%d bytes: % x, not % x", size, c, b[size-4:])
		}
	}
}

func TestCloseToNumbersBeyond(t *testing.T) {
	for _, want := range numbers() {
		is := crc.Close([]byte("some bytes"), want)
		for _, x := range beyond(want) {
			if c := crc.Close([]byte("some bytes"), x); !bytes.Equal(c, is) {
				t.Errorf("Close to %d: % x, not % x", x, c, is)
			}
		}
	}
}

func TestCloseAnswersNewMemory(t *testing.T) {
	whole := []byte("some bytes--------")
	b := whole[:10]
	one, two, three := crc.Close(b, 7), crc.Close(b, 7), crc.Close(b, 8)
	if string(whole) != "some bytes--------" {
		t.Errorf("Close wrote behind what was handed in: %q", whole)
	}
	is, other := string(two), string(three)
	clear(one[:cap(one)])
	if string(whole) != "some bytes--------" || string(two) != is || string(three) != other {
		t.Errorf("the answer is somebody else's memory: %q % x % x", whole, two, three)
	}
	clear(whole)
	if string(two) != is {
		t.Errorf("the answer is what was handed in: % x", two)
	}
	if c := crc.Close([]byte("some bytes"), 7); string(c) != is {
		t.Errorf("an answer that was written over changed what comes: % x", c)
	}
}

// R4 and R3.

func TestBytesAreLeftAsTheyAre(t *testing.T) {
	var m mixer = 21
	whole := m.row(64)
	is := slices.Clone(whole)
	crc.Sum(whole[:40])
	crc.Add(9, whole[:40]...)
	crc.Close(whole[:40], 9)
	if !bytes.Equal(whole, is) {
		t.Errorf("% x, not % x", whole, is)
	}
}

func TestEveryCallAnswersTheSameAgain(t *testing.T) {
	b := []byte("some bytes")
	tell := func() []int {
		return append([]int{crc.Sum(b), crc.Add(5, b...), crc.Move(77, 9), crc.Back(77, 9), crc.Both(3, 4, 5)}, int(crc.Close(b, 6)[0]))
	}
	first := tell()
	for _, x := range numbers() {
		crc.Add(x, b...)
		crc.Move(x, 1000)
		crc.Back(x, 1000)
		crc.Close(nil, x)
	}
	if again := tell(); !slices.Equal(first, again) {
		t.Error(first, again)
	}
}

// P2.4.

func TestBackOfMoveIsTheNumber(t *testing.T) {
	for _, x := range numbers() {
		for n := -3; n < 300; n++ {
			if crc.Back(crc.Move(x, n), n) != x || crc.Move(crc.Back(x, n), n) != x {
				t.Fatal(x, n)
			}
		}
		if crc.Back(crc.Move(x, 1<<16), 1<<16) != x || crc.Move(crc.Back(x, 1<<16), 1<<16) != x {
			t.Error(x)
		}
	}
}

func TestBothOfSumsIsTheSumOfBothRows(t *testing.T) {
	var m mixer = 13
	b := m.row(200)
	for at := range len(b) + 1 {
		if crc.Both(crc.Sum(b[:at]), crc.Sum(b[at:]), len(b)-at) != crc.Sum(b) {
			t.Error(at)
		}
	}
	for at := range 100 {
		first, midst, last := b[:at], b[at:150], b[150:]
		one := crc.Both(crc.Both(crc.Sum(first), crc.Sum(midst), len(midst)), crc.Sum(last), len(last))
		two := crc.Both(crc.Sum(first), crc.Both(crc.Sum(midst), crc.Sum(last), len(last)), len(midst)+len(last))
		if one != crc.Sum(b) || two != crc.Sum(b) {
			t.Error(at, one, two)
		}
	}
}

// turned is b with the bits of harm turned about from that bit on, of each byte the lowest one first.
func turned(b []byte, at int, harm uint32) []byte {
	out := slices.Clone(b)
	for i := range 32 {
		if harm>>i&1 == 1 {
			out[(at+i)/8] ^= 1 << ((at + i) % 8)
		}
	}
	return out
}

func TestHarmOfUpTo32BitsIsTold(t *testing.T) {
	var m mixer = 17
	for _, size := range []int{4, 5, 8, 33, 512} {
		b := m.row(size)
		is := crc.Sum(b)
		for at := range (size-4)*8 + 1 {
			harms := []uint32{1, 3, 1 << 31, 1<<31 | 1, 0x82F63B78, 0x1EDC6F41, 0xFFFFFFFF, 0x80808080, uint32(m.number()) | 1, uint32(m.number()) | 1<<31}
			for _, harm := range harms {
				if other := turned(b, at, harm); crc.Sum(other) == is {
					t.Fatalf("%d bytes, %08x from bit %d on: the sum is the same", size, harm, at)
				}
			}
		}
	}
}

func TestHarmOfEachBitAndEachTwoBytesIsTold(t *testing.T) {
	var m mixer = 19
	for _, size := range []int{1, 2, 3, 20} {
		b := m.row(size)
		is := crc.Sum(b)
		for i := range b {
			for harm := 1; harm < 1<<16; harm++ {
				if i+1 == size && harm > 255 {
					break
				}
				other := slices.Clone(b)
				other[i] ^= byte(harm)
				if harm > 255 {
					other[i+1] ^= byte(harm >> 8)
				}
				if crc.Sum(other) == is {
					t.Fatalf("%d bytes, %04x at %d: the sum is the same", size, harm, i)
				}
			}
		}
	}
}

// What 32 bits side by side can do to a sum they do in one way each: so many unlike sums are there as harms are asked.
func TestUnlikeHarmsHaveUnlikeSums(t *testing.T) {
	b := []byte("a row of bytes that is harmed")
	seen := map[int]uint32{crc.Sum(b): 0}
	for k := range uint32(1 << 17) {
		harm := k*0x9E3779B1 + 0x12345678
		if harm == 0 {
			continue
		}
		sum := crc.Sum(turned(b, 77, harm))
		if before, ok := seen[sum]; ok {
			t.Fatalf("%08x and %08x both make %x", before, harm, sum)
		}
		seen[sum] = harm
	}
}
