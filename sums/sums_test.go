package sums_test

import (
	"math"
	"math/big"
	"math/rand"
	"slices"
	"strings"
	"testing"

	"collator/api"
	"collator/sums"
)

const allBits = math.MaxUint64

// bits is how many bits a width stands for: the chapter's section Words.
func bits(width int) int {
	switch {
	case width < 0:
		return 0
	case width > 64:
		return 64
	}
	return width
}

// modulo is n modulo 2^width, of a number of any greatness, which is left as it is.
func modulo(n *big.Int, width int) uint64 {
	bound := new(big.Int).Lsh(big.NewInt(1), uint(bits(width)))
	return new(big.Int).Mod(n, bound).Uint64()
}

// great is promise I1's words before the modulo: no number goes round.
func great(h uint64, s string) *big.Int {
	n := new(big.Int).SetUint64(h)
	for _, b := range []byte(s) {
		n.Mul(n, big.NewInt(31))
		n.Add(n, big.NewInt(int64(b)))
		n.Add(n, big.NewInt(1))
	}
	return n
}

func wantMore(h uint64, s string, width int) uint64 { return modulo(great(h, s), width) }

// wantBoth is promise I2's words: the two sums of 64 bits first, then the rest, in which no number goes round.
func wantBoth(a, b string, width int) api.Key {
	n := new(big.Int).SetUint64(wantMore(0, a, 64))
	n.Mul(n, big.NewInt(37))
	n.Add(n, new(big.Int).SetUint64(wantMore(0, b, 64)))
	return api.Key{Sum: modulo(n, width), Len: len(a) + len(b)}
}

// widths is all that lie within the bounds, and some beyond.
func widths() []int {
	l := []int{math.MinInt, -1 << 32, -65, -64, -63, -1}
	for width := range 65 {
		l = append(l, width)
	}
	return append(l, 65, 66, 99, 127, 128, 129, 1<<32, 1<<32+1, math.MaxInt)
}

// beginnings is some of those that More may be handed, around each power of two.
func beginnings() []uint64 {
	l := []uint64{0, 98, 3137, allBits / 31, allBits/31 + 1, allBits - 1, allBits}
	for n := range 64 {
		l = append(l, 1<<n-1, 1<<n, 1<<n+1)
	}
	return l
}

// short is all texts of some bytes, of at most so many.
func short(length int, bytes string) []string {
	texts := []string{""}
	for begin := 0; length > 0; length-- {
		end := len(texts)
		for _, s := range texts[begin:end] {
			for i := range len(bytes) {
				texts = append(texts, s+bytes[i:i+1])
			}
		}
		begin = end
	}
	return texts
}

func someText(chance *rand.Rand, most int) string {
	s := make([]byte, chance.Intn(most+1))
	for i := range s {
		s[i] = byte(chance.Intn(256))
	}
	return string(s)
}

// texts is ordinary ones, the edges, and texts of any bytes.
func texts() []string {
	l := []string{
		"", "a", "b", "ab", "ba", "abc", "a\n", "a\nb\n", "A", " ", "\x00", "\x00\x00", "\x00a", "a\x00", "\x01",
		"\x7f", "\x80", "\xfe", "\xff", "\xff\xff", "\xff\x00", "\x00\xff", "\u00e9", "e\u0301", "\u20ac", "\ufffd", "\xe2\x82",
		"package sums\n\nfunc Sum(s string) uint64 { return 0 }\n",
		strings.Repeat("\x00", 13), strings.Repeat("\x00", 14), strings.Repeat("\xff", 12), strings.Repeat("\xff", 15),
		strings.Repeat("line\n", 100), strings.Repeat("\xff", 1000), strings.Repeat("\x00", 1000),
	}
	chance := rand.New(rand.NewSource(9))
	for range 40 {
		l = append(l, someText(chance, 40))
	}
	return l
}

type example struct {
	name  string
	s     string
	width int
	sum   uint64
}

func examples() []example {
	return []example{
		{"the chapter's example a", "a", 64, 98},
		{"the chapter's example ab", "ab", 64, 3137},
		{"the chapter's example ab, 4 bits", "ab", 4, 1},
		{"no bytes", "", 64, 0},
		{"no bytes, one bit", "", 1, 0},
		{"no bytes, no bits", "", 0, 0},
		{"a byte of 0", "\x00", 64, 1},
		{"two bytes of 0", "\x00\x00", 64, 32},
		{"three bytes of 0", "\x00\x00\x00", 64, 993},
		{"a byte of 255", "\xff", 64, 256},
		{"a byte of 255, 9 bits", "\xff", 9, 256},
		{"a byte of 255, 8 bits", "\xff", 8, 0},
		{"two bytes of 255", "\xff\xff", 64, 8192},
		{"a 0 ahead", "\x00a", 64, 129},
		{"a 0 behind", "a\x00", 64, 3039},
		{"the other order", "ba", 64, 3167},
		{"two bytes of one sign", "\u00e9", 64, 31*196 + 170},
		{"bytes that are no sign", "\xe9", 64, 234},
		{"a line feed", "a\n", 64, 3049},
		{"the least width", "ab", math.MinInt, 0},
		{"a width below 0", "ab", -1, 0},
		{"a width far below 0", "ab", -64, 0},
		{"no bits", "ab", 0, 0},
		{"one bit, odd", "ab", 1, 1},
		{"one bit, even", "a", 1, 0},
		{"two bits", "a", 2, 2},
		{"11 bits", "ab", 11, 1089},
		{"12 bits", "ab", 12, 3137},
		{"63 bits", "ab", 63, 3137},
		{"64 bits", "ab", 64, 3137},
		{"65 bits", "ab", 65, 3137},
		{"68 bits are not 4", "ab", 68, 3137},
		{"128 bits", "ab", 128, 3137},
		{"the greatest width", "ab", math.MaxInt, 3137},
		{"just not round: 256 times 31^11, and what follows", strings.Repeat("\xff", 12), 64, 0x5d472bc3af08c000},
		{"goes round", strings.Repeat("\xff", 15), 64, 0xdd3de8edeb432100},
		{"goes round, 63 bits", strings.Repeat("\xff", 15), 63, 0x5d3de8edeb432100},
		{"goes round, 32 bits", strings.Repeat("\xff", 15), 32, 0xeb432100},
	}
}

func TestSumI1(t *testing.T) {
	for _, x := range examples() {
		if got := sums.Sum(x.s, x.width); got != x.sum {
			t.Errorf("%s: %d, not %d", x.name, got, x.sum)
		}
	}
}

func TestMoreOfNothingI1(t *testing.T) {
	for _, x := range examples() {
		if got := sums.More(0, x.s, x.width); got != x.sum {
			t.Errorf("%s: %d, not %d", x.name, got, x.sum)
		}
	}
}

func TestMoreI1(t *testing.T) {
	for _, x := range []struct {
		name  string
		h     uint64
		s     string
		width int
		sum   uint64
	}{
		{"one byte more", 98, "b", 64, 3137},
		{"one byte more, 4 bits", 98, "b", 4, 1},
		{"no byte more", 98, "", 64, 98},
		{"no byte more, but fewer bits", 98, "", 4, 2},
		{"no byte more, and no bits", 98, "", 0, 0},
		{"no byte more, and less than no bits", 98, "", -7, 0},
		{"no byte more, and more bits than there are", allBits, "", 70, allBits},
		{"the beginning is 2^width", 16, "a", 4, (31*16 + 98) % 16},
		{"the beginning is 2^width, and no byte more", 16, "", 4, 0},
		{"the beginning is one more than 2^width", 17, "a", 4, (31*17 + 98) % 16},
		{"the beginning is one less than 2^width", 15, "", 4, 15},
		{"the beginning is 2^63, and no byte more", 1 << 63, "", 64, 1 << 63},
		{"the beginning is 2^63, of 63 bits", 1 << 63, "", 63, 0},
		{"the beginning is 2^63: 31 times that goes round", 1 << 63, "a", 64, 1<<63 + 98},
		{"the beginning is 2^63, of 63 bits, and a byte more", 1 << 63, "a", 63, 98},
		{"all bits, and a byte of 0: 31 less than 2^64, and 1", allBits, "\x00", 64, allBits - 29},
		{"all bits, and a byte of 30: just round", allBits, "\x1e", 64, 0},
		{"all bits, and a byte of 29: not quite", allBits, "\x1d", 64, allBits},
		{"all bits, and a byte of 255", allBits, "\xff", 64, 225},
		{"all bits, and a byte of 255, 5 bits", allBits, "\xff", 5, 1},
	} {
		if got := sums.More(x.h, x.s, x.width); got != x.sum {
			t.Errorf("%s: %d, not %d", x.name, got, x.sum)
		}
	}
}

// TestEachByteI1 holds every byte, alone, ahead and behind.
func TestEachByteI1(t *testing.T) {
	for b := range 256 {
		s := string([]byte{byte(b)})
		n := uint64(b)
		for _, x := range []example{
			{"alone", s, 64, n + 1},
			{"alone, 9 bits", s, 9, n + 1},
			{"alone, 8 bits", s, 8, (n + 1) % 256},
			{"ahead", s + "a", 64, 31*(n+1) + 98},
			{"behind", "a" + s, 64, 31*98 + n + 1},
		} {
			if got := sums.Sum(x.s, x.width); got != x.sum {
				t.Errorf("byte %d, %s: %d, not %d", b, x.name, got, x.sum)
			}
		}
	}
}

func TestAllWidthsI1(t *testing.T) {
	for _, s := range texts() {
		for _, width := range widths() {
			if got, want := sums.Sum(s, width), wantMore(0, s, width); got != want {
				t.Errorf("Sum of %q, %d: %d, not %d", s, width, got, want)
			}
		}
	}
}

func TestAllBeginningsI1(t *testing.T) {
	for _, h := range beginnings() {
		for _, s := range []string{"", "\x00", "a", "ab", "\xff\xff\xff", strings.Repeat("z", 30)} {
			for _, width := range widths() {
				if got, want := sums.More(h, s, width), wantMore(h, s, width); got != want {
					t.Errorf("More of %d, %q, %d: %d, not %d", h, s, width, got, want)
				}
			}
		}
	}
}

func TestAllShortTextsI1(t *testing.T) {
	for _, s := range short(5, "\x00\x01a\xff") {
		for _, width := range []int{-1, 0, 1, 7, 8, 9, 63, 64, 65} {
			if got, want := sums.Sum(s, width), wantMore(0, s, width); got != want {
				t.Errorf("Sum of %q, %d: %d, not %d", s, width, got, want)
			}
		}
	}
}

// TestLongTextI1 knows the sum of n bytes of 0 without going through it: 31^n, less 1, divided by 30.
func TestLongTextI1(t *testing.T) {
	const n = 1 << 20
	round := new(big.Int).Mul(big.NewInt(30), new(big.Int).Lsh(big.NewInt(1), 64))
	want := new(big.Int).Exp(big.NewInt(31), big.NewInt(n), round)
	want.Sub(want, big.NewInt(1))
	want.Div(want, big.NewInt(30))
	s := strings.Repeat("\x00", n)
	for _, width := range widths() {
		if got, want := sums.Sum(s, width), modulo(want, width); got != want {
			t.Errorf("width %d: %d, not %d", width, got, want)
		}
	}
	if got := sums.Of(s, 0); got != (api.Key{Len: n}) {
		t.Errorf("Of is %v", got)
	}
}

func TestOfI2(t *testing.T) {
	for _, x := range examples() {
		if got, want := sums.Of(x.s, x.width), (api.Key{Sum: x.sum, Len: len(x.s)}); got != want {
			t.Errorf("%s: %v, not %v", x.name, got, want)
		}
	}
}

func TestOfAllWidthsI2(t *testing.T) {
	for _, s := range texts() {
		for _, width := range widths() {
			if got, want := sums.Of(s, width), (api.Key{Sum: wantMore(0, s, width), Len: len(s)}); got != want {
				t.Errorf("Of %q, %d: %v, not %v", s, width, got, want)
			}
		}
	}
}

func TestBothI2(t *testing.T) {
	full := strings.Repeat("\xff", 15)
	for _, x := range []struct {
		name  string
		a, b  string
		width int
		sum   uint64
		len   int
	}{
		{"both without bytes", "", "", 64, 0, 0},
		{"both without bytes, no bits", "", "", 0, 0, 0},
		{"the first alone", "ab", "", 64, 37 * 3137, 2},
		{"the second alone", "", "ab", 64, 3137, 2},
		{"both", "ab", "a", 64, 37*3137 + 98, 3},
		{"both, the other way round", "a", "ab", 64, 37*98 + 3137, 3},
		{"a text twice", "ab", "ab", 64, 38 * 3137, 4},
		{"one byte parted elsewhere", "b", "ab", 64, 37*99 + 3137, 3},
		{"bytes of 0", "\x00", "\x00\x00", 64, 37 + 32, 3},
		{"bytes of 255", "\xff", "\xff", 64, 38 * 256, 2},
		{"a width below 0", "ab", "a", -1, 0, 3},
		{"no bits", "ab", "a", 0, 0, 3},
		{"one bit", "ab", "a", 1, 1, 3},
		{"3 bits", "ab", "a", 3, (37*3137 + 98) % 8, 3},
		{"16 bits: each sum has fewer, both have more", "ab", "a", 16, (37*3137 + 98) % 65536, 3},
		{"63 bits", "ab", "a", 63, 37*3137 + 98, 3},
		{"65 bits", "ab", "a", 65, 37*3137 + 98, 3},
		{"67 bits are not 3", "ab", "a", 67, 37*3137 + 98, 3},
		{"the least width", "ab", "a", math.MinInt, 0, 3},
		{"the greatest width", "ab", "a", math.MaxInt, 37*3137 + 98, 3},
		{"the first goes round", full, "", 64, 0xf9f2aa6300b3c500, 15},
		{"the first goes round, 60 bits", full, "", 60, 0x9f2aa6300b3c500, 15},
		{"both go round", full, full, 64, 0xd7309350ebf6e600, 30},
	} {
		if got, want := sums.Both(x.a, x.b, x.width), (api.Key{Sum: x.sum, Len: x.len}); got != want {
			t.Errorf("%s: %v, not %v", x.name, got, want)
		}
	}
}

func TestBothAllWidthsI2(t *testing.T) {
	l := texts()
	for i, a := range l {
		for j, b := range l {
			for _, width := range []int{-1, 0, 1 + (i+j)%62, 63, 64, 65} {
				if got, want := sums.Both(a, b, width), wantBoth(a, b, width); got != want {
					t.Errorf("Both of %q, %q, %d: %v, not %v", a, b, width, got, want)
				}
			}
		}
	}
	for _, width := range widths() {
		a, b := l[len(l)-1], l[len(l)-2]
		if got, want := sums.Both(a, b, width), wantBoth(a, b, width); got != want {
			t.Errorf("Both of %q, %q, %d: %v, not %v", a, b, width, got, want)
		}
	}
}

func TestBothChangesWithWhoIsFirstI2(t *testing.T) {
	l := short(3, "\x00ab\xff")
	for _, a := range l {
		for _, b := range l {
			one, other := sums.Both(a, b, 64), sums.Both(b, a, 64)
			if one.Len != len(a)+len(b) || other.Len != one.Len {
				t.Errorf("Both of %q and %q: %v and %v", a, b, one, other)
			}
			if (one == other) != (a == b) {
				t.Errorf("Both of %q and %q: %v and %v", a, b, one, other)
			}
		}
	}
}

// lowBits is what the last bits of h are, without those ahead.
func lowBits(h uint64, width int) uint64 {
	if bits(width) == 64 {
		return h
	}
	return h % (1 << bits(width))
}

func TestFewerBitsI3(t *testing.T) {
	const a, b = "some text\n", "another one,\nof two lines\xff"
	for _, more := range widths() {
		for _, fewer := range widths() {
			if fewer > more {
				continue
			}
			if got, want := sums.Sum(b, fewer), lowBits(sums.Sum(b, more), fewer); got != want {
				t.Errorf("Sum of %d bits is %d, that of %d leaves %d", fewer, got, more, want)
			}
			if got, want := sums.More(allBits-7, a, fewer), lowBits(sums.More(allBits-7, a, more), fewer); got != want {
				t.Errorf("More of %d bits is %d, that of %d leaves %d", fewer, got, more, want)
			}
			if got, want := sums.Of(a, fewer).Sum, lowBits(sums.Of(a, more).Sum, fewer); got != want {
				t.Errorf("Of of %d bits is %d, that of %d leaves %d", fewer, got, more, want)
			}
			if got, want := sums.Both(a, b, fewer).Sum, lowBits(sums.Both(a, b, more).Sum, fewer); got != want {
				t.Errorf("Both of %d bits is %d, that of %d leaves %d", fewer, got, more, want)
			}
		}
	}
}

func TestNoBitsI3(t *testing.T) {
	for _, s := range texts() {
		for _, width := range []int{math.MinInt, -64, -1, 0} {
			if got := sums.Sum(s, width); got != 0 {
				t.Errorf("Sum of %q, %d: %d", s, width, got)
			}
			if got := sums.More(allBits, s, width); got != 0 {
				t.Errorf("More of %q, %d: %d", s, width, got)
			}
			if got, want := sums.Of(s, width), sums.Of(strings.Repeat("x", len(s)), width); got != want {
				t.Errorf("Of %q, %d: %v, of another text as long %v", s, width, got, want)
			}
			if got, want := sums.Both(s, "ab", width), sums.Both("x", s+"y", width); got != want {
				t.Errorf("Both of %q, %d: %v, of others as long %v", s, width, got, want)
			}
		}
	}
}

func TestKeysOfUnlikeLengthsI3(t *testing.T) {
	for _, width := range []int{-1, 0, 1, 8, 64} {
		for n := range 20 {
			s := strings.Repeat("\x00", n)
			if one, other := sums.Of(s, width), sums.Of(s+"\x00", width); one == other {
				t.Errorf("width %d: %d bytes and one more are both %v", width, n, one)
			}
		}
	}
}

// TestTwoPartsI3 parts texts everywhere, and sums the first part with as many bits, and with all.
func TestTwoPartsI3(t *testing.T) {
	for _, s := range texts() {
		for _, h := range []uint64{0, 1, 1 << 40, allBits} {
			for _, width := range []int{-1, 0, 1, 2, 31, 32, 33, 63, 64, 65} {
				checkParts(t, h, s, width)
			}
		}
	}
}

func checkParts(t *testing.T, h uint64, s string, width int) {
	t.Helper()
	want := sums.More(h, s, width)
	for at := 0; at <= len(s); at += 1 + len(s)/50 {
		for _, first := range []int{width, 64} {
			if got := sums.More(sums.More(h, s[:at], first), s[at:], width); got != want {
				t.Errorf("%q, %d, parted at %d: %d, in one %d", s, width, at, got, want)
			}
		}
	}
}

// TestOneByteI3 puts every byte in every place of some texts.
func TestOneByteI3(t *testing.T) {
	for _, s := range []string{"a", "ab", "\x00\x00\x00", "\xff\xff", "some text\n", strings.Repeat("\x80", 100)} {
		for at := range len(s) {
			checkBytesAt(t, s, at)
		}
	}
}

// checkBytesAt tells of each two texts that are unlike at one place alone whether their sums are so, too.
func checkBytesAt(t *testing.T, s string, at int) {
	t.Helper()
	var got []uint64
	for b := range 256 {
		got = append(got, sums.Sum(s[:at]+string([]byte{byte(b)})+s[at+1:], 64))
	}
	slices.Sort(got)
	if len(slices.Compact(got)) != 256 {
		t.Errorf("%q: two bytes in place %d come to one sum", s, at)
	}
}

func TestOneByteOfLongTextsI3(t *testing.T) {
	chance := rand.New(rand.NewSource(3))
	for range 2000 {
		s := []byte(someText(chance, 200) + "x")
		one := sums.Sum(string(s), 64)
		at := chance.Intn(len(s))
		s[at] += byte(1 + chance.Intn(255))
		if other := sums.Sum(string(s), 64); one == other {
			t.Errorf("%q, unlike in place %d alone: both %d", s, at, one)
		}
	}
}

// TestTheSameTwiceI1I2 would find something that is kept from call to call.
func TestTheSameTwiceI1I2(t *testing.T) {
	for range 3 {
		if one, more := sums.Sum("ab", 64), sums.More(98, "b", 4); one != 3137 || more != 1 {
			t.Errorf("%d, %d, not 3137, 1", one, more)
		}
		if got := sums.Of("ab", 4); got != (api.Key{Sum: 1, Len: 2}) {
			t.Errorf("Of is %v", got)
		}
		if got := sums.Both("ab", "a", 3); got != (api.Key{Sum: (37*3137 + 98) % 8, Len: 3}) {
			t.Errorf("Both is %v", got)
		}
	}
}
