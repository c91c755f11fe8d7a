package crc_test

import (
	"math"
	"slices"
	"strings"
	"testing"

	"souk/api"
	"souk/crc"
)

// dice tells numbers that look like any, the same ones in each run.
type dice uint64

func (d *dice) next() uint32 {
	*d ^= *d << 13
	*d ^= *d >> 7
	*d ^= *d << 17
	return uint32(*d >> 16)
}

func (d *dice) below(n int) int { return int(d.next() % uint32(n)) }

func (d *dice) text(n int) string {
	b := make([]byte, n)
	for i := range b {
		b[i] = byte(d.next())
	}
	return string(b)
}

// slow is Add by the words of the document, bit by bit.
func slow(c uint32, s string) uint32 {
	c = ^c
	for i := range len(s) {
		for bit := range 8 {
			unlike := c&1 != uint32(s[i]>>bit&1)
			c >>= 1
			if unlike {
				c ^= 0xEDB88320
			}
		}
	}
	return ^c
}

// texts are some of each kind: none, short, long, of bytes that are no UTF-8.
func texts() []string {
	d := dice(1)
	l := []string{"", "a", "abc", "123456789", "\x00", "\x00\x00\x00\x00", "\xff\xff\xff\xff", "\xc3\x28 é", strings.Repeat("souk ", 20000)}
	for n := range 40 {
		l = append(l, d.text(n))
	}
	return l
}

// sums are some numbers that may be checksums.
func sums() []uint32 {
	return []uint32{0, 1, 0xFFFFFFFF, 0x80000000, 0xEDB88320, 0xE8B7BE43, 0x2144DF1C, 0x12345678}
}

// combined tells two texts of one length, byte by byte combined.
func combined(a, b string) string {
	l := []byte(a)
	for i := range l {
		l[i] ^= b[i]
	}
	return string(l)
}

// burst tells s with the bits of pattern turned, from the bit at on.
func burst(s string, at int, pattern uint64) string {
	b := []byte(s)
	for i := at; pattern != 0; i, pattern = i+1, pattern>>1 {
		b[i/8] ^= byte(pattern&1) << (i % 8)
	}
	return string(b)
}

// P1.1: the table.

func TestTableIsEachNumberShiftedEightTimes(t *testing.T) {
	for n, got := range crc.Table() {
		want := uint32(n)
		for range 8 {
			low := want & 1
			want >>= 1
			if low == 1 {
				want ^= 0xEDB88320
			}
		}
		if got != want {
			t.Errorf("at %d: %08X, not %08X", n, got, want)
		}
	}
	table := crc.Table()
	if table[0] != 0 || table[1] != 0x77073096 || table[128] != 0xEDB88320 {
		t.Errorf("%08X %08X %08X", table[0], table[1], table[128])
	}
}

func TestTableIsAValue(t *testing.T) {
	table := crc.Table()
	table[1] = 0
	if crc.Table()[1] != 0x77073096 || crc.Of("a") != 0xE8B7BE43 {
		t.Error("who changes a table changes another one")
	}
}

// P1.1: Of, Add, Back.

func TestOfExamples(t *testing.T) {
	for s, want := range map[string]uint32{"": 0, "a": 0xE8B7BE43, "abc": 0x352441C2, "123456789": 0xCBF43926} {
		if got := crc.Of(s); got != want {
			t.Errorf("%q: %08X, not %08X", s, got, want)
		}
	}
}

func TestOfIsTheChecksumBitByBit(t *testing.T) {
	for _, s := range texts() {
		if got, want := crc.Of(s), slow(0, s); got != want {
			t.Errorf("%d bytes: %08X, not %08X", len(s), got, want)
		}
	}
	for n := range 256 {
		s := string([]byte{byte(n)})
		if got, want := crc.Of(s), slow(0, s); got != want {
			t.Errorf("byte %d: %08X, not %08X", n, got, want)
		}
	}
}

func TestAddPutsATextBehind(t *testing.T) {
	if got := crc.Add(0xE8B7BE43, "bc"); got != 0x352441C2 {
		t.Errorf("a, bc: %08X", got)
	}
	s := "what happened, happened"
	for i := range len(s) + 1 {
		if got := crc.Add(crc.Of(s[:i]), s[i:]); got != crc.Of(s) {
			t.Errorf("cut at %d: %08X", i, got)
		}
	}
	for _, c := range sums() {
		for _, s := range texts() {
			if got, want := crc.Add(c, s), slow(c, s); got != want {
				t.Errorf("%08X and %d bytes: %08X, not %08X", c, len(s), got, want)
			}
		}
	}
}

func TestBackTakesATextAway(t *testing.T) {
	if got := crc.Back(0x352441C2, "bc"); got != 0xE8B7BE43 {
		t.Errorf("abc less bc: %08X", got)
	}
	for _, s := range texts() {
		if got := crc.Back(crc.Of(s), s); got != 0 {
			t.Errorf("all of %d bytes: %08X", len(s), got)
		}
	}
	for _, c := range sums() {
		if got := crc.Back(c, ""); got != c {
			t.Errorf("%08X less nothing: %08X", c, got)
		}
	}
}

// P1.2: Both.

func TestBothIsThatOfTwoTexts(t *testing.T) {
	s := "one behind the other, and more than thirty-two bytes"
	for i := range len(s) + 1 {
		if got := crc.Both(crc.Of(s[:i]), crc.Of(s[i:]), len(s)-i); got != crc.Of(s) {
			t.Errorf("cut at %d: %08X", i, got)
		}
	}
	d := dice(2)
	long := d.text(1<<20 + 5)
	for _, i := range []int{0, 1, 5, 1 << 10, 1 << 19, len(long)} {
		if got := crc.Both(crc.Of(long[:i]), crc.Of(long[i:]), len(long)-i); got != crc.Of(long) {
			t.Errorf("long, cut at %d: %08X", i, got)
		}
	}
}

func TestBothOfASecondTextWithoutBytes(t *testing.T) {
	for _, a := range sums() {
		if got := crc.Both(a, crc.Of(""), 0); got != a {
			t.Errorf("%08X and nothing: %08X", a, got)
		}
	}
}

func TestBothBelowNoBytesIsNothing(t *testing.T) {
	for _, n := range []int{-1, -2, -8, math.MinInt} {
		for _, a := range sums() {
			if got := crc.Both(a, ^a, n); got != 0 {
				t.Errorf("%08X, %d bytes: %08X", a, n, got)
			}
		}
	}
}

// Whatever a and b are: what a adds is what a checksum of a adds to any text of n bytes.
func TestBothOfWhateverNumbers(t *testing.T) {
	for _, n := range []int{0, 1, 2, 3, 4, 5, 31, 32, 33, 255, 4096, 65537} {
		zeros := strings.Repeat("\x00", n)
		for _, a := range sums() {
			for _, b := range sums() {
				want := slow(a, zeros) ^ slow(0, zeros) ^ b
				if got := crc.Both(a, b, n); got != want {
					t.Errorf("%08X %08X %d: %08X, not %08X", a, b, n, got, want)
				}
			}
		}
	}
}

// Nobody has texts so long: but the way there is the same in two steps as in one.
func TestBothOfGreatLengths(t *testing.T) {
	for _, n := range []int{1<<31 - 1, 1 << 31, 1<<62 - 1, 1 << 62, math.MaxInt} {
		for _, a := range sums() {
			half := crc.Both(a, 0, n/2)
			if got, want := crc.Both(a, 0x1234, n), crc.Both(half, 0x1234, n-n/2); got != want {
				t.Errorf("%08X %d: %08X, not %08X", a, n, got, want)
			}
		}
	}
	// All numbers but 0 are gone through, and then it begins anew.
	if got := crc.Both(0xE8B7BE43, 0, math.MaxUint32); got != 0xE8B7BE43 {
		t.Errorf("once round: %08X", got)
	}
}

// P1.3, P1.9: Forge.

// checkForged says what is wrong with s forged at a place.
func checkForged(t *testing.T, s string, at int, want uint32) {
	t.Helper()
	f, e := crc.Forge(s, at, want)
	if e != api.OK || len(f) != len(s) || f[:at] != s[:at] || f[at+4:] != s[at+4:] {
		t.Errorf("%q at %d: %q, %v", s, at, f, e)
		return
	}
	if got := slow(0, f); got != want {
		t.Errorf("%q at %d: %08X, not %08X", s, at, got, want)
	}
}

func TestForgeHasTheChecksumAndTheRestStays(t *testing.T) {
	d := dice(3)
	for n := 4; n < 24; n++ {
		s := d.text(n)
		for at := 0; at <= n-4; at++ {
			for _, want := range append(sums(), crc.Of(s), d.next()) {
				checkForged(t, s, at, want)
			}
		}
	}
	long := d.text(70000)
	for _, at := range []int{0, 1, 33333, 69995, 69996} {
		checkForged(t, long, at, 0xCAFEBABE)
	}
}

func TestForgeToItsOwnChecksumIsIt(t *testing.T) {
	s := "a market of nothing else"
	for at := 0; at <= len(s)-4; at++ {
		if f, e := crc.Forge(s, at, crc.Of(s)); f != s || e != api.OK {
			t.Errorf("at %d: %q, %v", at, f, e)
		}
	}
}

func TestForgeWithoutFourBytesIsShort(t *testing.T) {
	for _, c := range []struct {
		s  string
		at int
	}{
		{"", 0}, {"", -4}, {"", 1}, {"a", 0}, {"abc", 0}, {"abc", -1},
		{"abcd", 1}, {"abcd", -1}, {"abcd", 4}, {"abcd", 5},
		{"a market", 5}, {"a market", 7}, {"a market", 8}, {"a market", 9}, {"a market", -1},
		{"a market", math.MaxInt}, {"a market", math.MaxInt - 3}, {"a market", math.MinInt}, {"", math.MinInt},
	} {
		if f, e := crc.Forge(c.s, c.at, 0x12345678); f != "" || e != api.ErrShort {
			t.Errorf("%q at %d: %q, %v", c.s, c.at, f, e)
		}
	}
}

// What other bytes change of the checksum hangs on the bits that are other ones
// alone (P1.8): if no bit's change is made up of the others', none is nothing.
func TestForgeIsTheOnlyOne(t *testing.T) {
	s := "nothing but what happened"
	for at := 0; at <= len(s)-4; at++ {
		f, _ := crc.Forge(s, at, 0x12345678)
		var changes []uint32
		for bit := range 32 {
			changes = append(changes, crc.Of(burst(f, 8*at+bit, 1))^0x12345678)
		}
		if n := rank(changes); n != 32 {
			t.Errorf("at %d: only %d of 32 bits tell", at, n)
		}
	}
	d := dice(4)
	for range 2000 {
		f, _ := crc.Forge(s, 7, 0x12345678)
		other := f[:7] + d.text(4) + f[11:]
		if other != f && crc.Of(other) == 0x12345678 {
			t.Errorf("%q and %q", f, other)
		}
	}
}

// rank tells how many of l none is made up of the others, combined.
func rank(l []uint32) int {
	n := 0
	for bit := range 32 {
		i := slices.IndexFunc(l, func(x uint32) bool { return x>>bit&1 == 1 })
		if i < 0 {
			continue
		}
		n++
		one := l[i]
		for j := range l {
			if l[j]>>bit&1 == 1 {
				l[j] ^= one
			}
		}
	}
	return n
}

// P1.4, P1.10: Seal and Open.

func TestSealPutsTheChecksumBehindLowestFirst(t *testing.T) {
	if got := crc.Seal("a"); got != "a\x43\xBE\xB7\xE8" {
		t.Errorf("a: %q", got)
	}
	if got := crc.Seal(""); got != "\x00\x00\x00\x00" {
		t.Errorf("nothing: %q", got)
	}
	for _, s := range texts() {
		c := slow(0, s)
		want := s + string([]byte{byte(c), byte(c >> 8), byte(c >> 16), byte(c >> 24)})
		if got := crc.Seal(s); got != want {
			t.Errorf("%d bytes: %q", len(s), got)
		}
	}
}

func TestOpenTellsWhatWasSealed(t *testing.T) {
	for _, s := range texts() {
		if got, e := crc.Open(crc.Seal(s)); got != s || e != api.OK {
			t.Errorf("%d bytes: %d bytes, %v", len(s), len(got), e)
		}
		if got, e := crc.Open(crc.Seal(crc.Seal(s))); got != crc.Seal(s) || e != api.OK {
			t.Errorf("%d bytes, twice: %d bytes, %v", len(s), len(got), e)
		}
	}
}

func TestOpenWithoutFourBytesIsShort(t *testing.T) {
	for _, s := range []string{"", "a", "ab", "abc", "\x00\x00\x00", crc.Seal("a")[:3]} {
		if got, e := crc.Open(s); got != "" || e != api.ErrShort {
			t.Errorf("%q: %q, %v", s, got, e)
		}
	}
}

func TestOpenOfNoSealedTextIsWrong(t *testing.T) {
	for _, s := range []string{
		"a\x00\x00\x00\x00", "abcd", "\x00\x00\x00\x01",
		"a\xE8\xB7\xBE\x43", // highest first
		"b\x43\xBE\xB7\xE8",
		"a\x43\xBE\xB7\xE8\x00",
		"aa\x43\xBE\xB7\xE8",
		"\x43\xBE\xB7\xE8",
	} {
		if got, e := crc.Open(s); got != "" || e != api.ErrSum {
			t.Errorf("%q: %q, %v", s, got, e)
		}
	}
	s := crc.Seal("what was cut short")
	for n := 4; n < len(s); n++ {
		if got, e := crc.Open(s[:n]); got != "" || e != api.ErrSum {
			t.Errorf("%d bytes: %q, %v", n, got, e)
		}
	}
}

func TestSealOfWhatIsOpenedIsIt(t *testing.T) {
	d := dice(5)
	for n := 4; n < 60; n++ {
		s, _ := crc.Forge(d.text(n), d.below(n-3), 0x2144DF1C)
		got, e := crc.Open(s)
		if e != api.OK || crc.Seal(got) != s {
			t.Errorf("%q: %q, %v", s, got, e)
		}
	}
}

func TestChecksumOfASealedText(t *testing.T) {
	for _, s := range texts() {
		if got := crc.Of(crc.Seal(s)); got != 0x2144DF1C {
			t.Errorf("%d bytes: %08X", len(s), got)
		}
	}
}

// P1.5: bursts.

// patterns are all bursts of at most 9 bits, and some of each greater length up to 32.
func patterns() []uint64 {
	d := dice(6)
	var l []uint64
	for p := uint64(1); p < 512; p++ {
		l = append(l, p)
	}
	for length := 10; length <= 32; length++ {
		ends := uint64(1)<<(length-1) | 1
		between := uint64(1)<<length - 1
		l = append(l, ends, between)
		for range 20 {
			l = append(l, uint64(d.next())&between|ends)
		}
	}
	return l
}

func TestSealedTextsWithABurstAreNone(t *testing.T) {
	for _, text := range []string{"", "a", "souk", "\x00\x00\x00\x00\x00", "a market"} {
		s := crc.Seal(text)
		for at := range 8 * len(s) {
			for _, p := range patterns() {
				if p>>(8*len(s)-at) != 0 {
					continue // it goes beyond the last bit
				}
				if got, e := crc.Open(burst(s, at, p)); got != "" || e != api.ErrSum {
					t.Fatalf("%q, %b from bit %d on: %q, %v", text, p, at, got, e)
				}
			}
		}
	}
}

func TestTextsWithABurstHaveUnlikeChecksums(t *testing.T) {
	for _, s := range []string{"1234", "12345678", "\x00\x00\x00\x00\x00\x00", "what came first is served first"} {
		sum := crc.Of(s)
		for at := range 8*len(s) - 31 {
			for _, p := range patterns() {
				if crc.Of(burst(s, at, p)) == sum {
					t.Fatalf("%q, %b from bit %d on", s, p, at)
				}
			}
		}
	}
}

// A bit more than P1.5 says is not seen any more, if it is the divisor itself:
// so the bits are counted from the lowest on, and 32 is all there is.
func TestABurstOf33BitsMayGoUnseen(t *testing.T) {
	s := crc.Seal("nothing but what happened")
	for at := 0; at+33 <= 8*len(s); at++ {
		if _, e := crc.Open(burst(s, at, 1|0xEDB88320<<1)); e != api.OK {
			t.Errorf("from bit %d on: %v", at, e)
		}
	}
}

// P1.6: there and back.

func TestThereAndBack(t *testing.T) {
	for _, c := range sums() {
		for _, s := range texts() {
			if got := crc.Back(crc.Add(c, s), s); got != c {
				t.Errorf("%08X, %d bytes, back of add: %08X", c, len(s), got)
			}
			if got := crc.Add(crc.Back(c, s), s); got != c {
				t.Errorf("%08X, %d bytes, add of back: %08X", c, len(s), got)
			}
		}
	}
}

func TestAddByTwoTextsIsAddByBoth(t *testing.T) {
	l := texts()
	for _, c := range sums() {
		for i, a := range l {
			b := l[len(l)-1-i]
			if got, want := crc.Add(crc.Add(c, a), b), crc.Add(c, a+b); got != want {
				t.Errorf("%08X, %d and %d bytes: %08X, not %08X", c, len(a), len(b), got, want)
			}
		}
	}
}

// P1.7: put together.

func TestThreeTextsPutTogether(t *testing.T) {
	d := dice(7)
	for range 500 {
		x, y, z := d.text(d.below(50)), d.text(d.below(50)), d.text(d.below(50))
		a, b, c := crc.Of(x), crc.Of(y), crc.Of(z)
		first := crc.Both(crc.Both(a, b, len(y)), c, len(z))
		last := crc.Both(a, crc.Both(b, c, len(z)), len(y)+len(z))
		if want := crc.Of(x + y + z); first != want || last != want {
			t.Errorf("%q %q %q: %08X, %08X, not %08X", x, y, z, first, last, want)
		}
	}
}

// P1.8: sums.

func TestChecksumsOfThreeTextsCombined(t *testing.T) {
	d := dice(8)
	for n := range 100 {
		x, y, z := d.text(n), d.text(n), d.text(n)
		got := crc.Of(combined(combined(x, y), z))
		if want := crc.Of(x) ^ crc.Of(y) ^ crc.Of(z); got != want {
			t.Errorf("%d bytes: %08X, not %08X", n, got, want)
		}
	}
}
