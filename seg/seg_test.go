package seg_test

import (
	"encoding/binary"
	"fmt"
	"hash/crc32"
	"math"
	"slices"
	"strings"
	"testing"

	"souk/api"
	"souk/frame"
	"souk/seg"
)

// The limits, by the words of the document.
const (
	maxPayload = 4096
	maxSeq     = 1048576
	maxGen     = 99999999
	maxBytes   = 1048576
)

// dice tells numbers that look like any, the same ones in each run.
type dice uint64

func (d *dice) next() uint64 {
	*d ^= *d << 13
	*d ^= *d >> 7
	*d ^= *d << 17
	return uint64(*d) * 0x2545F4914F6CDD1D
}

func (d *dice) below(n int) int { return int(d.next() >> 1 % uint64(n)) }

func (d *dice) text(n int) string {
	b := make([]byte, n)
	for i := range b {
		b[i] = byte(d.next() >> 24)
	}
	return string(b)
}

// first tells a segment's first number: small ones as often as great ones.
func (d *dice) first() int64 { return int64(d.below(maxSeq+1)) >> d.below(21) }

// payloads are some, each of most bytes at most, of numbers that they may have.
func (d *dice) payloads(first int64, count, most int) []string {
	var l []string
	for range min(int64(d.below(count+1)), maxSeq-first) {
		l = append(l, d.text(1+d.below(most)>>d.below(8)))
	}
	return l
}

// summed is a text with its checksum behind it, the lowest byte first.
func summed(s string) string {
	return s + string(binary.LittleEndian.AppendUint32(nil, crc32.ChecksumIEEE([]byte(s))))
}

// claim is what has a header's form and the right checksum, whether the word
// and the number may be or not.
func claim(word string, first uint64) string {
	return summed(word + string(binary.BigEndian.AppendUint64(nil, first)))
}

// head is a header by the words of the document.
func head(first int64) string { return claim("seg1", uint64(first)) }

// spelt is a frame by the words of the document.
func spelt(seq int64, payload string) string {
	b := binary.BigEndian.AppendUint32(nil, uint32(len(payload)))
	b = binary.BigEndian.AppendUint64(b, uint64(seq))
	sum := crc32.ChecksumIEEE([]byte(string(b) + payload))
	return string(binary.LittleEndian.AppendUint32(b, sum)) + payload
}

// segment is a segment by the words of the document, and where its header and
// each frame end.
func segment(first int64, payloads []string) (s string, ends []int) {
	var b strings.Builder
	b.WriteString(head(first))
	ends = []int{b.Len()}
	for i, p := range payloads {
		b.WriteString(spelt(first+int64(i), p))
		ends = append(ends, b.Len())
	}
	return b.String(), ends
}

// slowScan scans by the words of the document.
func slowScan(s string) (x seg.Seg, e api.Errno) {
	if len(s) < 16 {
		return x, api.ErrShort
	}
	if s[:4] != "seg1" {
		return x, api.ErrForm
	}
	if summed(s[:12]) != s[:16] {
		return x, api.ErrSum
	}
	first := binary.BigEndian.Uint64([]byte(s[4:]))
	if first > maxSeq {
		return x, api.ErrForm
	}
	x = seg.Seg{First: int64(first), Good: 16}
	for {
		f, next, e := frame.Read(s, x.Good)
		if e != api.OK || f.Seq != x.First+int64(len(x.Frames)) {
			x.Whole = x.Good == len(s)
			return x, api.OK
		}
		x.Frames = append(x.Frames, f)
		x.Good = next
	}
}

// slowSplit splits by the words of the document: how many payloads each segment
// has.
func slowSplit(payloads []string, most int) []int {
	counts, size := []int{0}, 16
	for _, p := range payloads {
		more := 16 + len(p)
		if size > 16 && size+more > most {
			counts, size = append(counts, 0), 16
		}
		counts[len(counts)-1]++
		size += more
	}
	return counts
}

// equal tells whether segments are the same.
func equal(x, y seg.Seg) bool {
	return x.First == y.First && slices.Equal(x.Frames, y.Frames) && x.Good == y.Good && x.Whole == y.Whole
}

// texts are the payloads of a segment's frames.
func texts(x seg.Seg) []string {
	var l []string
	for _, f := range x.Frames {
		l = append(l, f.Payload)
	}
	return l
}

// none tells whether a segment is the zero value.
func none(x seg.Seg) bool { return x.First == 0 && len(x.Frames) == 0 && x.Good == 0 && !x.Whole }

// joins tells the segment of payloads.
func joins(t *testing.T, first int64, payloads []string) string {
	t.Helper()
	s, e := seg.Join(first, payloads)
	if e != api.OK {
		t.Fatalf("Join(%d, %d payloads): %d", first, len(payloads), e)
	}
	return s
}

// scans says what is wrong with what is scanned, and tells it.
func scans(t *testing.T, s string) (seg.Seg, api.Errno) {
	t.Helper()
	x, e := seg.Scan(s)
	want, err := slowScan(s)
	if !equal(x, want) || e != err {
		t.Errorf("Scan(%d bytes): %v, %d, not %v, %d", len(s), x, e, want, err)
	}
	first, e := seg.First(s)
	if first != want.First || e != err {
		t.Errorf("First(%d bytes): %d, %d, not %d, %d", len(s), first, e, want.First, err)
	}
	return x, e
}

// scanned says what is wrong, if not just these payloads are scanned, up to
// the end of the last one.
func scanned(t *testing.T, s string, first int64, payloads []string) {
	t.Helper()
	x, e := seg.Scan(s)
	if e != api.OK || x.First != first || !slices.Equal(texts(x), payloads) {
		t.Errorf("Scan(%d bytes): %d, %d, %q, not %d, %q", len(s), e, x.First, texts(x), first, payloads)
		return
	}
	at := 16
	for i, f := range x.Frames {
		if f.Seq != first+int64(i) || f.At != at {
			t.Errorf("Scan(%d bytes): at %d %v, not %d, at %d", len(s), i, f, first+int64(i), at)
		}
		at += 16 + len(payloads[i])
	}
	if x.Good != at || x.Whole != (at == len(s)) {
		t.Errorf("Scan(%d bytes): good up to %d, %v, not %d", len(s), x.Good, x.Whole, at)
	}
	if next := seg.Next(x); next != first+int64(len(payloads)) {
		t.Errorf("Next(%d bytes): %d", len(s), next)
	}
}

// refused says what is wrong with how bytes are refused, with nothing beside
// the error.
func refused(t *testing.T, s string, want api.Errno) {
	t.Helper()
	if first, e := seg.First(s); first != 0 || e != want {
		t.Errorf("First(% X): %d, %d, not %d", s, first, e, want)
	}
	if x, e := seg.Scan(s); !none(x) || e != want {
		t.Errorf("Scan(% X): %v, %d, not %d", s, x, e, want)
	}
}

// splits says what is wrong with how payloads are split, and tells the
// segments.
func splits(t *testing.T, first int64, payloads []string, most int) []string {
	t.Helper()
	l, e := seg.Split(first, payloads, most)
	if e != api.OK {
		t.Fatalf("Split(%d, %d payloads, %d): %d", first, len(payloads), most, e)
	}
	var want []string
	from := 0
	for _, n := range slowSplit(payloads, most) {
		s, _ := segment(first+int64(from), payloads[from:from+n])
		want = append(want, s)
		from += n
	}
	if !slices.Equal(l, want) {
		t.Errorf("Split(%d, %d payloads, %d): %d segments, not %d: %q, not %q", first, len(payloads), most, len(l), len(want), l, want)
	}
	return l
}

// noSplit says what is wrong with how Split refuses.
func noSplit(t *testing.T, first int64, payloads []string, most int, want api.Errno) {
	t.Helper()
	if l, e := seg.Split(first, payloads, most); e != want || len(l) != 0 {
		t.Errorf("Split(%d, %d payloads, %d): %q, %d, not %d", first, len(payloads), most, l, e, want)
	}
}

// noJoin says what is wrong with how Join refuses.
func noJoin(t *testing.T, first int64, payloads []string, want api.Errno) {
	t.Helper()
	if s, e := seg.Join(first, payloads); e != want || s != "" {
		t.Errorf("Join(%d, %d payloads): %d bytes, %d, not %d", first, len(payloads), len(s), e, want)
	}
}

// row is so many payloads of so many bytes.
func row(count, size int) []string { return slices.Repeat([]string{strings.Repeat("x", size)}, count) }

// numbers are the edges of a first batch's number, and some between.
var numbers = []int64{0, 1, 7, 255, 256, 65535, 65536, 524288, 999999, 1000000, maxSeq - 2, maxSeq - 1, maxSeq}

// noNumbers are numbers that a first batch can't have.
var noNumbers = []int64{-1, -2, -256, -maxSeq, maxSeq + 1, maxSeq + 2, 2 * maxSeq, 1<<32 - 1, 1 << 32, 1<<32 | 7, 1 << 62, 7 - 1<<63, math.MinInt64, math.MaxInt64}

// P11.1: Header, First.

func TestTheLimits(t *testing.T) {
	if seg.Head != 16 || api.MaxPayload != maxPayload || api.MaxSeq != maxSeq || api.MaxGen != maxGen || api.MaxBytes != maxBytes {
		t.Errorf("%d, %d, %d, %d, %d", seg.Head, api.MaxPayload, api.MaxSeq, api.MaxGen, api.MaxBytes)
	}
}

// written are headers, written out.
var written = []struct {
	first int64
	s     string
}{
	{0, "seg1" + "\x00\x00\x00\x00\x00\x00\x00\x00" + "\x89\x64\xf3\x03"},
	{17, "\x73\x65\x67\x31" + "\x00\x00\x00\x00\x00\x00\x00\x11" + "\x7b\x44\x43\x69"},
	{maxSeq - 1, "seg1" + "\x00\x00\x00\x00\x00\x0f\xff\xff" + "\x4b\x31\x89\xb6"},
	{maxSeq, "seg1" + "\x00\x00\x00\x00\x00\x10\x00\x00" + "\xf9\xc7\xd5\x1f"},
}

func TestHeadersWrittenOut(t *testing.T) {
	for _, c := range written {
		if s, e := seg.Header(c.first); s != c.s || e != api.OK {
			t.Errorf("Header(%d): % X, %d", c.first, s, e)
		}
		if first, e := seg.First(c.s); first != c.first || e != api.OK {
			t.Errorf("First(% X): %d, %d", c.s, first, e)
		}
	}
}

func TestHeaderIsTheBytesByTheWords(t *testing.T) {
	l := slices.Clone(numbers)
	for n := int64(0); n <= maxSeq; n += 997 {
		l = append(l, n)
	}
	for _, first := range l {
		s, e := seg.Header(first)
		if s != head(first) || e != api.OK {
			t.Errorf("Header(%d): % X, %d", first, s, e)
		}
		scanned(t, s, first, nil)
	}
}

func TestFirstLooksAtTheHeaderAlone(t *testing.T) {
	d := dice(1)
	for _, first := range numbers {
		for _, behind := range []string{"", "x", d.text(40), spelt(first, "ab"), head(3), strings.Repeat("\x00", 100)} {
			if n, e := seg.First(head(first) + behind); n != first || e != api.OK {
				t.Errorf("First with %d bytes behind: %d, %d, not %d", len(behind), n, e, first)
			}
		}
	}
}

// The errors' table, row of Header.

func TestNumbersThatNoHeaderHas(t *testing.T) {
	for _, first := range noNumbers {
		if s, e := seg.Header(first); s != "" || e != api.ErrArg {
			t.Errorf("Header(%d): % X, %d", first, s, e)
		}
	}
}

// The errors' table, row of First and Scan.

func TestFewerBytesThanAHeader(t *testing.T) {
	for _, s := range []string{head(7), head(maxSeq), claim("seg2", 7), claim("seg1", maxSeq+1), strings.Repeat("\x00", 16), strings.Repeat("\xff", 16)} {
		for n := range 16 {
			refused(t, s[:n], api.ErrShort)
		}
	}
	refused(t, "", api.ErrShort)
	scanned(t, head(7)[:16], 7, nil)
}

func TestAnotherWord(t *testing.T) {
	for _, word := range []string{"seg0", "seg2", "SEG1", "seG1", "Seg1", " seg", "eg1s", "man1", "snp1", "arc1", "\x00\x00\x00\x00", "1ges"} {
		for _, first := range []uint64{0, 7, maxSeq, maxSeq + 1, math.MaxUint64} {
			whole := claim(word, first)
			for _, s := range []string{whole, whole + "x", whole + spelt(7, "ab"), whole[:12] + "sum?"} {
				refused(t, s, api.ErrForm)
			}
		}
	}
	refused(t, "x"+head(7), api.ErrForm)
	refused(t, strings.Repeat("\x00", 16), api.ErrForm)
	refused(t, strings.Repeat("\xff", 17), api.ErrForm)
}

func TestAnotherChecksum(t *testing.T) {
	for _, first := range slices.Concat(numbers, noNumbers) {
		right := claim("seg1", uint64(first))
		sum := binary.LittleEndian.Uint32([]byte(right[12:]))
		of := func(s string) uint32 { return crc32.ChecksumIEEE([]byte(s)) }
		for name, other := range map[string]uint32{
			"one more": sum + 1, "turned": ^sum, "none": 0, "of the number": of(right[4:12]), "of the word": of(right[:4]),
			"of four more bytes": of(right[:12] + "\x00\x00\x00\x00"), "of all": of(right),
		} {
			if other == sum {
				t.Fatalf("%s: it is the same", name)
			}
			s := right[:12] + string(binary.LittleEndian.AppendUint32(nil, other))
			refused(t, s, api.ErrSum)
			refused(t, s+spelt(first, "ab"), api.ErrSum)
		}
		highest := right[:12] + string(binary.BigEndian.AppendUint32(nil, sum))
		refused(t, highest, api.ErrSum)
	}
}

func TestNumbersThatMayNotBe(t *testing.T) {
	for _, first := range noNumbers {
		whole := claim("seg1", uint64(first))
		for _, s := range []string{whole, whole + "x", whole + spelt(first, "ab")} {
			refused(t, s, api.ErrForm)
		}
		refused(t, whole[:15], api.ErrShort)
		refused(t, whole[:15]+"?", api.ErrSum)
	}
}

// P11.2: Scan, Next.

func TestScanByTheWords(t *testing.T) {
	for _, first := range numbers {
		d := dice(2)
		for range 20 {
			l := d.payloads(first, 6, maxPayload)
			s, _ := segment(first, l)
			scanned(t, s, first, l)
			scanned(t, s+"torn", first, l)
			scans(t, s+d.text(d.below(50)))
		}
	}
}

func TestASegmentOfAHeaderAlone(t *testing.T) {
	for _, first := range numbers {
		x, e := seg.Scan(head(first))
		if e != api.OK || x.First != first || len(x.Frames) != 0 || x.Good != 16 || !x.Whole || seg.Next(x) != first {
			t.Errorf("Scan: %v, %d; Next: %d", x, e, seg.Next(x))
		}
		x, e = seg.Scan(head(first) + "x")
		if e != api.OK || x.First != first || len(x.Frames) != 0 || x.Good != 16 || x.Whole || seg.Next(x) != first {
			t.Errorf("Scan: %v, %d; Next: %d", x, e, seg.Next(x))
		}
	}
}

func TestFramesOfAnotherNumber(t *testing.T) {
	for _, first := range numbers {
		for _, seq := range slices.Concat(numbers, []int64{first + 1, first - 1, 2, 3}) {
			if seq != first && seq >= 0 && seq < maxSeq {
				scanned(t, head(first)+spelt(seq, "ab"), first, nil)
			}
			if first+1 < maxSeq && seq != first+1 {
				scanned(t, head(first)+spelt(first, "ab")+spelt(seq, "c")+spelt(first+1, "d"), first, []string{"ab"})
			}
		}
	}
}

func TestTheLastNumbers(t *testing.T) {
	s := head(maxSeq-2) + spelt(maxSeq-2, "a") + spelt(maxSeq-1, "b")
	scanned(t, s, maxSeq-2, []string{"a", "b"})
	scanned(t, s+spelt(maxSeq, "c"), maxSeq-2, []string{"a", "b"})
	scanned(t, head(maxSeq)+spelt(maxSeq, "c"), maxSeq, nil)
	scanned(t, head(maxSeq-1)+spelt(maxSeq-1, "a"), maxSeq-1, []string{"a"})
	x, _ := seg.Scan(s)
	if next := seg.Next(x); next != maxSeq {
		t.Errorf("Next: %d", next)
	}
}

func TestNextOfWhateverIsHandedIn(t *testing.T) {
	for _, first := range slices.Concat(numbers, noNumbers) {
		for _, x := range []seg.Seg{{First: first}, {First: first, Frames: []frame.Frame{}, Good: -1, Whole: true}} {
			if next := seg.Next(x); next != first {
				t.Errorf("Next(%v): %d", x, next)
			}
		}
		x := seg.Seg{First: first, Frames: []frame.Frame{{Seq: first}}}
		if next := seg.Next(x); next != first+1 {
			t.Errorf("Next(%v): %d", x, next)
		}
	}
	if next := seg.Next(seg.Seg{}); next != 0 {
		t.Errorf("Next of nothing: %d", next)
	}
}

func TestAFullFile(t *testing.T) {
	l := row((maxBytes-16)/17, 1)
	s, _ := segment(3, l)
	scanned(t, s, 3, l)
	if joined := joins(t, 3, l); joined != s {
		t.Errorf("Join: %d bytes, not %d", len(joined), len(s))
	}
}

// P11.2: Fits.

// slowFits tells by the words of the document, for numbers that don't run over.
func slowFits(size, n, most int) bool {
	return n >= 1 && n <= maxPayload && (size == 16 || size+16+n <= most)
}

func TestFitsByTheWords(t *testing.T) {
	lengths := []int{-4096, -17, -16, -1, 0, 1, 2, 16, 20, 31, 32, 47, 48, 49, 1000, 4079, 4080, 4095, 4096, 4097, 65536}
	for _, n := range lengths {
		for _, most := range []int{-1, 0, 16, 17, 32, 33, 64, 65, 100, 4096, 4111, 4112, 4128, 65535, 65536, maxBytes} {
			sizes := []int{16, 17, 32, 33, 34, 48, 64, 100, 4112, 4128, 65536, maxBytes}
			for by := range 7 {
				sizes = append(sizes, most-16-n+by-3)
			}
			for _, size := range sizes {
				if size < 16 {
					continue
				}
				if got := seg.Fits(size, n, most); got != slowFits(size, n, most) {
					t.Errorf("Fits(%d, %d, %d): %v", size, n, most, got)
				}
			}
		}
	}
}

func TestJustAtMostAndAByteAboveIt(t *testing.T) {
	for _, n := range []int{1, 2, 20, 1000, 4096} {
		for _, size := range []int{17, 33, 64, 5000} {
			at := size + 16 + n
			if !seg.Fits(size, n, at) || seg.Fits(size, n, at-1) || !seg.Fits(size, n, at+1) || seg.Fits(size+1, n, at) {
				t.Errorf("%d bytes more to %d", n, size)
			}
			if !seg.Fits(16, n, 64) || !seg.Fits(16, n, 0) || !seg.Fits(16, n, 16+16+n-1) {
				t.Errorf("%d bytes do not go to a header alone", n)
			}
		}
	}
}

func TestLengthsThatNoPayloadHas(t *testing.T) {
	for _, n := range []int{0, -1, -16, math.MinInt32, math.MinInt, math.MinInt + 16, 4097, 4098, 1 << 16, 1 << 32, 1<<32 | 1, math.MaxInt - 16, math.MaxInt} {
		for _, size := range []int{16, 17, 64, 65536} {
			for _, most := range []int{64, 65536, maxBytes, math.MaxInt} {
				if seg.Fits(size, n, most) {
					t.Errorf("Fits(%d, %d, %d)", size, n, most)
				}
			}
		}
	}
	if !seg.Fits(17, 4096, 65536) || !seg.Fits(17, 1, 65536) {
		t.Error("the longest one, or the shortest one, does not go there")
	}
}

func TestFitsOfTheLeastAndTheGreatestNumbers(t *testing.T) {
	for _, c := range []struct {
		size, n, most int
		want          bool
	}{
		{math.MaxInt, 1, 64, false}, {math.MaxInt, 1, math.MaxInt, false}, {math.MaxInt - 16, 1, math.MaxInt, false}, {math.MaxInt - 17, 1, math.MaxInt, true},
		{math.MaxInt - 17, 2, math.MaxInt, false}, {math.MaxInt - 4111, 4096, math.MaxInt, false}, {math.MaxInt - 4112, 4096, math.MaxInt, true},
		{17, 1, math.MinInt, false}, {17, 4096, math.MinInt + 4111, false}, {math.MaxInt, 1, math.MinInt, false}, {16, 1, math.MinInt, true}, {17, 1, math.MaxInt, true},
	} {
		if got := seg.Fits(c.size, c.n, c.most); got != c.want {
			t.Errorf("Fits(%d, %d, %d): %v", c.size, c.n, c.most, got)
		}
	}
}

// P11.3: Join.

func TestJoinIsTheBytesByTheWords(t *testing.T) {
	d := dice(3)
	for range 300 {
		first := d.first()
		l := d.payloads(first, 8, maxPayload)
		want, _ := segment(first, l)
		if s := joins(t, first, l); s != want {
			t.Errorf("Join(%d, %d payloads): %d bytes, not %d", first, len(l), len(s), len(want))
		}
	}
	for _, first := range numbers {
		if s := joins(t, first, nil); s != head(first) {
			t.Errorf("Join(%d) of nothing: % X", first, s)
		}
		if s := joins(t, first, []string{}); s != head(first) {
			t.Errorf("Join(%d) of an empty list: % X", first, s)
		}
	}
}

func TestJoinJustAtMaxBytes(t *testing.T) {
	l := row(254, maxPayload) // 16 and 254 times 4112 bytes: 4112 are left
	for _, c := range []struct {
		behind []string
		size   int
	}{
		{[]string{strings.Repeat("y", maxPayload-1)}, maxBytes - 1},
		{[]string{strings.Repeat("y", maxPayload)}, maxBytes},
		{[]string{strings.Repeat("y", 4000), strings.Repeat("z", 80)}, maxBytes},
	} {
		all := slices.Concat(l, c.behind)
		s := joins(t, 5, all)
		if want, _ := segment(5, all); s != want || len(s) != c.size {
			t.Errorf("Join: %d bytes, not %d", len(s), c.size)
		}
	}
	noJoin(t, 5, slices.Concat(l, []string{strings.Repeat("y", 4000), strings.Repeat("z", 81)}), api.ErrTooLarge)
	noJoin(t, 5, slices.Concat(l, []string{"y", strings.Repeat("z", maxPayload)}), api.ErrTooLarge)
}

// P11.3: Split.

func TestSplitByTheWords(t *testing.T) {
	d := dice(4)
	for range 1500 {
		first := d.first()
		most := 64 + d.below(65536-64+1)>>d.below(16)
		splits(t, first, d.payloads(first, 30, min(maxPayload, 2*most)), most)
	}
}

func TestSplitOfNothing(t *testing.T) {
	for _, first := range numbers {
		for _, most := range []int{64, 65, 1000, 65536} {
			for _, l := range [][]string{nil, {}} {
				if got := splits(t, first, l, most); len(got) != 1 || got[0] != head(first) {
					t.Errorf("Split(%d) of nothing: %q", first, got)
				}
			}
		}
	}
}

func TestPayloadsThatEachFillASegment(t *testing.T) {
	for _, most := range []int{64, 100, 4096, 4127, 4128} {
		for _, n := range []int{most - 32, most - 31, most - 16, most, most - 32 - 16} {
			if n < 1 || n > maxPayload {
				continue
			}
			l := splits(t, 3, row(9, n), most)
			if len(l) != 9 {
				t.Errorf("payloads of %d, most %d: %d segments", n, most, len(l))
			}
		}
	}
	for _, most := range []int{64, 65, 4111} {
		if l := splits(t, 3, row(9, maxPayload), most); len(l) != 9 {
			t.Errorf("the longest ones, most %d: %d segments", most, len(l))
		}
	}
}

func TestPayloadsThatGoJustInAndJustNot(t *testing.T) {
	for _, most := range []int{64, 65, 100, 1000, 4000} {
		for a := 1; a <= 64; a++ {
			b := most - 16 - 16 - a - 16 // what is left behind a header, and a
			if b < 1 {
				continue
			}
			x, y := strings.Repeat("a", a), strings.Repeat("b", b)
			if l := splits(t, 9, []string{x, y}, most); len(l) != 1 {
				t.Errorf("%d and %d, most %d: %d segments", a, b, most, len(l))
			}
			if l := splits(t, 9, []string{x, y, "c"}, most); len(l) != 2 {
				t.Errorf("%d, %d and 1, most %d: %d segments", a, b, most, len(l))
			}
			if l := splits(t, 9, []string{x, y + "b"}, most); len(l) != 2 {
				t.Errorf("%d and %d, most %d: %d segments", a, b+1, most, len(l))
			}
		}
	}
}

// What comes behind a payload that did not go in does not go in ahead of it.
func TestNothingGoesBackIntoASegment(t *testing.T) {
	l := splits(t, 0, []string{"a", strings.Repeat("b", 4000), "c", "d"}, 64)
	counts := []int{}
	for _, s := range l {
		x, _ := seg.Scan(s)
		counts = append(counts, len(x.Frames))
	}
	if !slices.Equal(counts, []int{1, 1, 2}) {
		t.Errorf("%d", counts)
	}
}

// The errors' table, row of Join and Split.

func TestFirstNumbersThatMayNotBe(t *testing.T) {
	for _, first := range noNumbers {
		for _, l := range [][]string{nil, {}, {"a"}, {""}, row(1, maxPayload+1), row(300, maxPayload)} {
			noJoin(t, first, l, api.ErrArg)
			noSplit(t, first, l, 64, api.ErrArg)
			noSplit(t, first, l, 63, api.ErrArg)
		}
	}
}

func TestMostThatMayNotBe(t *testing.T) {
	for _, most := range []int{63, 0, -1, -64, math.MinInt, 65537, 1 << 17, maxBytes, 1<<32 | 64, math.MaxInt} {
		for _, l := range [][]string{nil, {"a"}, {""}, row(1, maxPayload+1)} {
			for _, first := range numbers {
				noSplit(t, first, l, most, api.ErrArg)
			}
		}
	}
	splits(t, 7, []string{"a", "b", "c"}, 64)
	splits(t, 7, row(40, maxPayload), 65536)
}

func TestPayloadsThatMayNotBe(t *testing.T) {
	many := make([]string, maxSeq+1)
	for i := range many {
		many[i] = "x"
	}
	for _, bad := range []string{"", strings.Repeat("a", maxPayload+1), strings.Repeat("a", 1<<16)} {
		for _, l := range [][]string{{bad}, {"a", bad}, {bad, "a"}, {"a", bad, "c"}, slices.Concat(row(300, maxPayload), []string{bad})} {
			for _, first := range numbers {
				noJoin(t, first, l, api.ErrForm)
				noSplit(t, first, l, 64, api.ErrForm)
			}
		}
		// That a payload may not be comes ahead of that they are too many.
		many[maxSeq] = bad
		noJoin(t, 0, many, api.ErrForm)
		noSplit(t, 0, many, 65536, api.ErrForm)
	}
}

func TestNumbersThatRunOver(t *testing.T) {
	for n := range 5 {
		l := row(n, 20)
		first := int64(maxSeq - n)
		s, _ := segment(first, l)
		scanned(t, joins(t, first, l), first, l)
		if joins(t, first, l) != s {
			t.Errorf("%d payloads up to the last number", n)
		}
		splits(t, first, l, 64)
		splits(t, first, l, 65536)
		for _, more := range []int{n + 1, n + 2, n + 100} {
			noJoin(t, first, row(more, 20), api.ErrTooLarge)
			noSplit(t, first, row(more, 20), 64, api.ErrTooLarge)
			noSplit(t, first, row(more, 20), 65536, api.ErrTooLarge)
		}
	}
}

func TestAsManyAsThereAreNumbers(t *testing.T) {
	l := row(maxSeq, 1)
	got, e := seg.Split(0, l, 65536)
	if e != api.OK || len(got) != (maxSeq+3853)/3854 { // 3854 times 17 and 16 are 65534
		t.Fatalf("%d segments, %d", len(got), e)
	}
	x, e := seg.Scan(got[len(got)-1])
	if e != api.OK || !x.Whole || seg.Next(x) != maxSeq {
		t.Errorf("the last one: up to %d, %d", seg.Next(x), e)
	}
	noJoin(t, 0, l, api.ErrTooLarge)
	noSplit(t, 1, l, 65536, api.ErrTooLarge)
	noSplit(t, 0, append(l, "x"), 65536, api.ErrTooLarge)
}

// P11.4: Name, Named.

var generations = []int64{0, 1, 9, 10, 17, 99, 12345678, 9999999, 10000000, 99999998, maxGen}

func TestNamesByTheWords(t *testing.T) {
	for _, gen := range generations {
		for _, first := range numbers {
			name := seg.Name(gen, first)
			if name != fmt.Sprintf("s%08d-%010d", gen, first) {
				t.Errorf("Name(%d, %d): %q", gen, first, name)
			}
			if g, f, is := seg.Named(name); g != gen || f != first || !is {
				t.Errorf("Named(%q): %d, %d, %v", name, g, f, is)
			}
		}
	}
	for name, want := range map[string][2]int64{"s00000000-0000000000": {0, 0}, "s99999999-0001048576": {maxGen, maxSeq}, "s00000001-0001048575": {1, maxSeq - 1}} {
		if got := seg.Name(want[0], want[1]); got != name {
			t.Errorf("Name(%d, %d): %q", want[0], want[1], got)
		}
	}
}

func TestNoNameOfNumbersThatMayNotBe(t *testing.T) {
	noGens := []int64{-1, -2, math.MinInt64, maxGen + 1, maxGen + 2, 1 << 32, 1<<32 | 7, math.MaxInt64}
	for _, gen := range noGens {
		for _, first := range slices.Concat(numbers, noNumbers) {
			if name := seg.Name(gen, first); name != "" {
				t.Errorf("Name(%d, %d): %q", gen, first, name)
			}
		}
	}
	for _, gen := range generations {
		for _, first := range noNumbers {
			if name := seg.Name(gen, first); name != "" {
				t.Errorf("Name(%d, %d): %q", gen, first, name)
			}
		}
	}
}

// unnamed says what is wrong, if something is called so.
func unnamed(t *testing.T, name string) {
	t.Helper()
	if gen, first, is := seg.Named(name); gen != 0 || first != 0 || is {
		t.Errorf("Named(%q): %d, %d, %v", name, gen, first, is)
	}
}

func TestTextsThatAreNoName(t *testing.T) {
	for _, name := range []string{
		"", "s", "-", "s-", "s3-17", "s3-0000000017", "s00000003-17", "MANIFEST", "MANIFEST.new", "SNAPSHOT.new", "n0000000017",
		"s00000003-000000017", "s00000003-00000000017", "s0000003-0000000017", "s000000003-0000000017", "s0000003-00000000017", "s000000003-000000017",
		"S00000003-0000000017", "t00000003-0000000017", "00000003-0000000017", "ss0000003-0000000017", "s00000003_0000000017", "s00000003--000000017",
		"s+0000003-0000000017", "s-0000003-0000000017", "s00000003-+000000017", "s00000003--000000017", "s-0000000-0000000017", "s00000003-+000000000", "s00000003--000000000",
		" 00000003-0000000017", "s 0000003-0000000017", "s0000003 -0000000017", "s00000003- 000000017", "s00000003-000000017 ", " s00000003-0000000017", "s00000003-0000000017 ", "s00000003-0000000017\n", "s00000003 0000000017",
		"s0000000a-0000000017", "s0x000003-0000000017", "s00000003-0x00000017", "s0000_003-0000000017", "s00000003-0000000_17", "s0000003.-0000000017", "s000003e0-0000000017", "s00000003-00000001e7",
		"s00000003-0001048577", "s00000003-0001048578", "s00000003-9999999999", "s99999999-0001048577", "s00000003-4294967296", "s100000000-0000000000", "s100000000-000000000",
		"s00000003-0000000017s00000003-0000000017", "s00000003-0000000017-", "s00000003-00000000\x00\x00", "s\uff1100003-0000000017", strings.Repeat("9", 20), "s" + strings.Repeat("9", 200) + "-" + strings.Repeat("9", 200), strings.Repeat("-", 20), strings.Repeat("\xff", 20),
	} {
		unnamed(t, name)
	}
}

func TestANameWithAByteTakenByAnotherOne(t *testing.T) {
	for _, name := range []string{"s00000003-0000000017", "s99999999-0001048576", "s00000000-0000000000"} {
		for i := range len(name) {
			for c := range 256 {
				b := []byte(name)
				b[i] = byte(c)
				other := string(b)
				digit := c >= '0' && c <= '9'
				if other == name {
					continue
				}
				if i == 0 || i == 9 || !digit {
					unnamed(t, other)
				}
				called(t, other)
			}
			unnamed(t, name[:i])
			unnamed(t, name[:i]+name[i+1:])
			unnamed(t, name[:i]+"0"+name[i:])
		}
		unnamed(t, name+"0")
		unnamed(t, "0"+name)
	}
}

// called says what is wrong with what Named says of a text, by the words of the
// document.
func called(t *testing.T, name string) bool {
	t.Helper()
	var gen, first int64
	is := len(name) == 20
	for i := 0; is && i < len(name); i++ {
		switch c := int64(name[i]); {
		case i == 0 || i == 9:
			is = "s........-.........."[i] == name[i]
		case c < '0' || c > '9':
			is = false
		case i < 9:
			gen = 10*gen + c - '0'
		default:
			first = 10*first + c - '0'
		}
	}
	if is = is && first <= maxSeq; !is {
		gen, first = 0, 0
	}
	if g, f, got := seg.Named(name); g != gen || f != first || got != is {
		t.Errorf("Named(%q): %d, %d, %v, not %d, %d, %v", name, g, f, got, gen, first, is)
	}
	return is
}

// P11.5: back.

func TestWhatIsJoinedIsScanned(t *testing.T) {
	d := dice(5)
	for range 500 {
		first := d.first()
		l := d.payloads(first, 10, maxPayload)
		s := joins(t, first, l)
		scanned(t, s, first, l)
		if x, _ := seg.Scan(s); !x.Whole || x.Good != len(s) {
			t.Errorf("Scan of what is joined: %v", x)
		}
	}
}

// near are bytes that are nearly a segment: of frames numbered on, of others,
// of whatever bytes, with some bits turned, cut short.
func (d *dice) near() string {
	first := d.first()
	s := head(first)
	switch d.below(10) {
	case 0:
		s = claim("seg1", d.next()>>d.below(64))
	case 1:
		s = claim("seg"+string(rune('0'+d.below(3))), uint64(first))
	}
	seq := first
	for range d.below(6) {
		switch d.below(10) {
		case 0:
			seq = d.first()
		case 1:
			s += d.text(d.below(20))
		}
		s += spelt(seq, d.text(1+d.below(40)))
		seq++
	}
	b := []byte(s)
	if d.below(4) == 0 {
		b[d.below(len(b))] ^= 1 << d.below(8)
	}
	return string(b[:len(b)-d.below(4)/3*d.below(len(b)+1)])
}

func TestWhatIsScannedIsJoined(t *testing.T) {
	d := dice(6)
	seen := map[api.Errno]int{}
	whole, torn := 0, 0
	for range 6000 {
		s := d.near()
		x, e := scans(t, s)
		if seen[e]++; e != api.OK {
			refused(t, s, e)
			continue
		}
		if joined := joins(t, x.First, texts(x)); joined != s[:x.Good] {
			t.Errorf("%d bytes scanned and joined: %d, not %d", len(s), len(joined), x.Good)
		}
		if x.Whole && len(x.Frames) > 1 {
			whole++
		} else if !x.Whole && len(x.Frames) > 1 {
			torn++
		}
	}
	for _, e := range []api.Errno{api.OK, api.ErrForm, api.ErrShort, api.ErrSum} {
		if seen[e] < 50 {
			t.Errorf("%d was seen %d times", e, seen[e])
		}
	}
	if whole < 200 || torn < 200 {
		t.Errorf("%d were whole, %d torn", whole, torn)
	}
}

// P11.6: torn.

// upTo tells how many frames end within the first n bytes.
func upTo(ends []int, n int) int {
	k := 0
	for k+1 < len(ends) && ends[k+1] <= n {
		k++
	}
	return k
}

func TestASegmentCutShortAtEachByte(t *testing.T) {
	d := dice(7)
	for range 40 {
		first := d.first()
		l := d.payloads(first, 5, 200)
		s, ends := segment(first, l)
		for n := range len(s) + 1 {
			if n < 16 {
				refused(t, s[:n], api.ErrShort)
				continue
			}
			k := upTo(ends, n)
			scanned(t, s[:n], first, l[:k])
			if x, _ := seg.Scan(s[:n]); x.Good != ends[k] || x.Whole != (n == ends[k]) {
				t.Errorf("cut at %d: good up to %d, %v", n, x.Good, x.Whole)
			}
		}
	}
}

func TestASegmentCutShortWithOtherBytesBehind(t *testing.T) {
	d := dice(8)
	for range 40 {
		first := d.first()
		l := d.payloads(first, 5, 60)
		s, ends := segment(first, l)
		for n := 16; n <= len(s); n++ {
			k := upTo(ends, n)
			for _, behind := range []string{"\x00", strings.Repeat("\x00", 40), strings.Repeat("\xff", 40), d.text(1 + d.below(60)), spelt((first+9)%maxSeq, "another"), head(first) + "x"} {
				// Bytes behind may be just those that were cut off.
				if n == len(s) || !strings.HasPrefix(behind, s[n:n+1]) {
					scanned(t, s[:n]+behind, first, l[:k])
				}
				scans(t, s[:n]+behind)
			}
		}
	}
}

func TestCutToGoodWithOtherFramesBehind(t *testing.T) {
	d := dice(9)
	for range 100 {
		first := d.first()
		l := d.payloads(first, 5, 60)
		s, _ := segment(first, l)
		for n := 16; n <= len(s); n++ {
			x, e := seg.Scan(s[:n])
			if e != api.OK {
				t.Fatalf("cut at %d: %d", n, e)
			}
			all := slices.Clone(l[:len(x.Frames)])
			on := s[:x.Good]
			for range min(d.below(4), maxSeq-int(seg.Next(x))) {
				p := d.text(1 + d.below(50))
				on += spelt(first+int64(len(all)), p)
				all = append(all, p)
			}
			scanned(t, on, first, all)
			if y, _ := seg.Scan(on); !y.Whole {
				t.Errorf("cut at %d, with %d frames: it is not whole", n, len(all))
			}
			if joined := joins(t, first, all); joined != on {
				t.Errorf("cut at %d, with %d frames: joined otherwise", n, len(all))
			}
		}
	}
}

// P11.7: split.

func TestSplitSegmentsPutTogether(t *testing.T) {
	d := dice(10)
	for range 1000 {
		first := d.first()
		most := 64 + d.below(65536-64+1)>>d.below(16)
		l := d.payloads(first, 40, min(maxPayload, 2*most))
		got, e := seg.Split(first, l, most)
		if e != api.OK {
			t.Fatalf("Split(%d, %d payloads, %d): %d", first, len(l), most, e)
		}
		var all []string
		next, ahead := first, 0
		for i, s := range got {
			x, e := seg.Scan(s)
			if e != api.OK || !x.Whole || x.First != next {
				t.Errorf("segment %d: %v, %d, not from %d on", i, x, e, next)
			}
			if len(s) > most && len(x.Frames) != 1 {
				t.Errorf("segment %d: %d bytes, %d frames, most %d", i, len(s), len(x.Frames), most)
			}
			if len(x.Frames) == 0 && len(l) > 0 {
				t.Errorf("segment %d: no frames", i)
			} else if i > 0 && seg.Fits(ahead, len(x.Frames[0].Payload), most) {
				t.Errorf("segment %d: its first payload goes into the one ahead", i)
			}
			all, next, ahead = append(all, texts(x)...), seg.Next(x), len(s)
		}
		if !slices.Equal(all, l) || len(got) == 0 {
			t.Errorf("%d payloads, not %d, in %d segments", len(all), len(l), len(got))
		}
	}
}

func TestSplitIntoOneIsJoined(t *testing.T) {
	d := dice(11)
	for range 200 {
		first := d.first()
		l := d.payloads(first, 12, maxPayload)
		if s, _ := segment(first, l); len(s) <= 65536 {
			if got := splits(t, first, l, 65536); len(got) != 1 || got[0] != joins(t, first, l) {
				t.Errorf("%d bytes: %d segments", len(s), len(got))
			}
		}
	}
}

// P11.8: called.

func TestNamesOfOneGenerationRise(t *testing.T) {
	for _, gen := range generations {
		last := ""
		for _, first := range numbers {
			name := seg.Name(gen, first)
			if name <= last {
				t.Errorf("Name(%d, %d): %q, behind %q", gen, first, name, last)
			}
			last = name
		}
	}
	d := dice(12)
	for range 2000 {
		a, b := d.first(), d.first()
		if (seg.Name(3, a) < seg.Name(3, b)) != (a < b) {
			t.Errorf("%d, %d", a, b)
		}
	}
}

func TestNameOfNamedIsTheName(t *testing.T) {
	d := dice(13)
	seen := 0
	for range 20000 {
		b := []byte(seg.Name(int64(d.below(maxGen+1))>>d.below(27), d.first()))
		for range d.below(3) {
			b[d.below(len(b))] = "0123456789+- _sx\x00"[d.below(17)]
		}
		name := string(b)
		if called(t, name) {
			seen++
			if gen, first, _ := seg.Named(name); seg.Name(gen, first) != name {
				t.Errorf("Name of Named(%q): %q", name, seg.Name(gen, first))
			}
		}
	}
	if seen < 5000 || seen > 19000 {
		t.Errorf("%d were names", seen)
	}
}

// P11.9: a burst.

// spoilt says what is wrong, if a header with a burst is one. The lowest bit of
// each byte comes first.
func spoilt(t *testing.T, s string, at int, pattern uint32) {
	t.Helper()
	b := []byte(s)
	for i, bits := at, pattern; bits != 0; i, bits = i+1, bits>>1 {
		b[i/8] ^= byte(bits&1) << (i % 8)
	}
	x := string(b)
	if first, e := seg.First(x); first != 0 || e != api.ErrForm && e != api.ErrSum {
		t.Errorf("% X, %X turned from bit %d on: %d, %d", s, pattern, at, first, e)
	}
	if y, e := seg.Scan(x); !none(y) || e != api.ErrForm && e != api.ErrSum {
		t.Errorf("% X, %X turned from bit %d on: %v, %d", s, pattern, at, y, e)
	}
	scans(t, x)
}

func TestEachSingleBitTurned(t *testing.T) {
	for _, first := range numbers {
		for at := range 8 * 16 {
			spoilt(t, head(first), at, 1)
			spoilt(t, head(first)+spelt(first, "ab"), at, 1)
		}
	}
}

func TestBurstsOfUpTo32Bits(t *testing.T) {
	d := dice(14)
	for _, first := range numbers {
		s := head(first)
		for width := 2; width <= 32; width++ {
			last := uint32(1) << (width - 1)
			for at := 0; at+width <= 8*len(s); at++ {
				for _, bits := range []uint32{1 | last, last | (last - 1), 1 | last | uint32(d.next()>>16)&(last-1)} {
					spoilt(t, s, at, bits)
				}
			}
		}
	}
}

// R1.

func TestWhatIsToldMayBeWrittenOver(t *testing.T) {
	l := []string{"ab", "c", "def"}
	s := joins(t, 5, l)
	x, _ := seg.Scan(s)
	y, _ := seg.Scan(s)
	for i := range x.Frames {
		x.Frames[i] = frame.Frame{Seq: -1, Payload: "over", At: -1}
	}
	x.Frames = append(x.Frames[:1], frame.Frame{})
	if want, _ := slowScan(s); !equal(y, want) {
		t.Errorf("%v, not %v", y, want)
	}
	a, _ := seg.Split(5, l, 64)
	b, _ := seg.Split(5, l, 64)
	want := slices.Clone(b)
	for i := range a {
		a[i] = "over"
	}
	if a = append(a[:1], "more"); !slices.Equal(b, want) || len(a) != 2 {
		t.Errorf("%q, not %q", b, want)
	}
	scanned(t, s, 5, l)
}

func TestWhatIsHandedInStays(t *testing.T) {
	d := dice(15)
	for range 200 {
		first := d.first()
		l := d.payloads(first, 8, 300)
		kept := slices.Clone(l)
		spare := append(l, "spare")[:len(l)]
		s := joins(t, first, spare)
		splits(t, first, spare, 64)
		near := d.near()
		was := strings.Clone(near)
		seg.Scan(near)
		seg.First(near)
		x, _ := seg.Scan(s)
		y := seg.Seg{First: x.First, Frames: slices.Clone(x.Frames), Good: x.Good, Whole: x.Whole}
		seg.Next(x)
		if !slices.Equal(l, kept) || near != was || !equal(x, y) || spare[:len(l)+1][len(l)] != "spare" {
			t.Fatal("what was handed in is another one")
		}
	}
}

// What is told stays as it is, whatever becomes of the list that was handed in.
func TestWhatIsToldSharesNothingWithTheList(t *testing.T) {
	l := []string{"ab", "c", "def"}
	got := splits(t, 5, l, 64)
	want, s := slices.Clone(got), joins(t, 5, l)
	for i := range l {
		l[i] = "over"
	}
	if !slices.Equal(got, want) {
		t.Errorf("%q, not %q", got, want)
	}
	scanned(t, s, 5, []string{"ab", "c", "def"})
}

// The chapter's examples.

func TestExamples(t *testing.T) {
	if s, e := seg.Header(0); e != api.OK || len(s) != 16 || s[:12] != "\x73\x65\x67\x31\x00\x00\x00\x00\x00\x00\x00\x00" {
		t.Errorf("Header(0): % X, %d", s, e)
	}
	if name := seg.Name(3, 17); name != "s00000003-0000000017" {
		t.Errorf("Name(3, 17): %q", name)
	}
	unnamed(t, "s3-17")
	s := joins(t, 5, []string{"a", "bc"})
	if len(s) != 51 {
		t.Errorf("Join: %d bytes", len(s))
	}
	x, e := seg.Scan(s[:50])
	if e != api.OK || len(x.Frames) != 1 || x.Good != 33 || x.Whole || seg.Next(x) != 6 {
		t.Errorf("Scan: %v, %d", x, e)
	}
	l := splits(t, 0, row(10, 20), 100)
	if len(l) != 5 {
		t.Errorf("Split: %d segments", len(l))
	}
	for i, s := range l {
		if x, _ := seg.Scan(s); len(s) != 88 || len(x.Frames) != 2 || x.First != int64(2*i) {
			t.Errorf("Split: at %d %d bytes, %v", i, len(s), x)
		}
	}
	if !seg.Fits(16, 4096, 64) || seg.Fits(33, 16, 64) || !seg.Fits(32, 16, 64) {
		t.Error("Fits")
	}
}
