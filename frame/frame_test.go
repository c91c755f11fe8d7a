package frame_test

import (
	"encoding/binary"
	"hash/crc32"
	"math"
	"slices"
	"strings"
	"testing"

	"souk/api"
	"souk/frame"
)

// The limits, by the words of the document.
const (
	maxPayload = 4096
	maxSeq     = 1048576
)

// dice tells numbers that look like any, the same ones in each run.
type dice uint64

func (d *dice) next() uint64 {
	*d ^= *d << 13
	*d ^= *d >> 7
	*d ^= *d << 17
	return uint64(*d) * 0x2545F4914F6CDD1D
}

func (d *dice) below(n int) int { return int(d.next() >> 1 % uint64(n)) }

func (d *dice) text(n int) string {
	b := make([]byte, n)
	for i := range b {
		b[i] = byte(d.next() >> 24)
	}
	return string(b)
}

// length tells a payload's length: short ones as often as long ones.
func (d *dice) length() int { return 1 + d.below(maxPayload)>>d.below(12) }

// said are the first 12 bytes of a frame: what it says that its payload's
// length, and its number, are.
func said(n uint32, seq uint64) string {
	b := binary.BigEndian.AppendUint32(nil, n)
	return string(binary.BigEndian.AppendUint64(b, seq))
}

// lowest are the four bytes of a checksum, the lowest first.
func lowest(sum uint32) string { return string(binary.LittleEndian.AppendUint32(nil, sum)) }

// claim is what has a frame's form and the right checksum, whether its length
// and its number may be or not.
func claim(n uint32, seq uint64, payload string) string {
	head := said(n, seq)
	return head + lowest(crc32.ChecksumIEEE([]byte(head+payload))) + payload
}

// spelt is a frame's bytes by the words of the document.
func spelt(seq int64, payload string) string {
	return claim(uint32(len(payload)), uint64(seq), payload)
}

// row is frames of payloads, one behind the other, and where each ends.
func row(first int64, payloads ...string) (s string, ends []int) {
	for i, p := range payloads {
		s += spelt(first+int64(i), p)
		ends = append(ends, len(s))
	}
	return s, ends
}

// slowRead reads a frame by the words of the document.
func slowRead(s string, at int) (f frame.Frame, next int, e api.Errno) {
	if at < 0 || at > len(s) {
		return f, 0, api.ErrArg
	}
	b := []byte(s[at:])
	if len(b) < 16 {
		return f, 0, api.ErrShort
	}
	n, seq := binary.BigEndian.Uint32(b), binary.BigEndian.Uint64(b[4:])
	if n < 1 || n > maxPayload || seq > maxSeq-1 {
		return f, 0, api.ErrForm
	}
	if uint32(len(b)-16) < n {
		return f, 0, api.ErrShort
	}
	b = b[:16+n]
	if crc32.Update(crc32.ChecksumIEEE(b[:12]), crc32.IEEETable, b[16:]) != binary.LittleEndian.Uint32(b[12:]) {
		return f, 0, api.ErrSum
	}
	return frame.Frame{Seq: int64(seq), Payload: string(b[16:]), At: at}, at + len(b), api.OK
}

// slowScan scans by the words of the document.
func slowScan(s string, at int, first int64) (l []frame.Frame, good int) {
	if at < 0 || at > len(s) {
		return nil, 0
	}
	for {
		f, next, e := slowRead(s, at)
		if e != api.OK || f.Seq != first {
			return l, at
		}
		l, at, first = append(l, f), next, first+1
	}
}

// makes tells a frame's bytes.
func makes(t *testing.T, seq int64, payload string) string {
	t.Helper()
	s, e := frame.Make(seq, payload)
	if e != api.OK {
		t.Fatalf("Make(%d, %d bytes): %d", seq, len(payload), e)
	}
	return s
}

// noFrame says what is wrong with how Make refuses.
func noFrame(t *testing.T, seq int64, payload string, want api.Errno) {
	t.Helper()
	if s, e := frame.Make(seq, payload); e != want || s != "" {
		t.Errorf("Make(%d, %d bytes): % X, %d, not %d", seq, len(payload), s, e, want)
	}
}

// reads says what is wrong with what is read at a place, and tells the error.
func reads(t *testing.T, s string, at int) api.Errno {
	t.Helper()
	f, next, e := frame.Read(s, at)
	if g, end, want := slowRead(s, at); f != g || next != end || e != want {
		t.Errorf("Read(%d bytes, %d): %v, %d, %d, not %v, %d, %d", len(s), at, f, next, e, g, end, want)
	}
	return e
}

// refused says what is wrong with how bytes are refused, with nothing beside
// the error.
func refused(t *testing.T, s string, at int, want api.Errno) {
	t.Helper()
	f, next, e := frame.Read(s, at)
	if e != want || next != 0 || f != (frame.Frame{}) {
		t.Errorf("Read(%d bytes, %d): %v, %d, %d, not %d", len(s), at, f, next, e, want)
	}
}

// scans says what is wrong with what is scanned.
func scans(t *testing.T, s string, at int, first int64) {
	t.Helper()
	l, good := frame.Scan(s, at, first)
	if want, end := slowScan(s, at, first); !slices.Equal(l, want) || good != end {
		t.Errorf("Scan(%d bytes, %d, %d): %v, %d, not %v, %d", len(s), at, first, l, good, want, end)
	}
}

// scanned says what is wrong, if not just these payloads are scanned.
func scanned(t *testing.T, s string, at int, first int64, payloads []string, end int) {
	t.Helper()
	l, good := frame.Scan(s, at, first)
	if len(l) != len(payloads) || good != end {
		t.Errorf("Scan(%d bytes, %d, %d): %d frames, %d, not %d, %d", len(s), at, first, len(l), good, len(payloads), end)
		return
	}
	for i, p := range payloads {
		if want := (frame.Frame{Seq: first + int64(i), Payload: p, At: at}); l[i] != want {
			t.Errorf("Scan(%d bytes, %d, %d): at %d %v, not %v", len(s), at, first, i, l[i], want)
		}
		at += 16 + len(p)
	}
}

// payloads are some of each kind: the shortest and the longest ones, those that
// look like a head, and whatever bytes.
func payloads() []string {
	d := dice(10)
	l := []string{"a", "ab", "\x00", "\xff", "\x00\x00\x00\x02", "\xc3\x28 é", said(1, 7), spelt(7, "ab"), strings.Repeat("\x00", 16)}
	l = append(l, strings.Repeat("\xff", maxPayload), d.text(maxPayload-1), d.text(maxPayload))
	for n := range 40 {
		l = append(l, d.text(1+n))
	}
	return l
}

// numbers are the edges of a frame's numbers, and some between.
var numbers = []int64{0, 1, 2, 7, 255, 256, 65535, 65536, 524287, 524288, maxSeq - 2, maxSeq - 1}

// noNumbers are numbers that a frame can't have.
var noNumbers = []int64{-1, -2, -256, -maxSeq, maxSeq, maxSeq + 1, 2 * maxSeq, 1<<32 - 1, 1 << 32, 1<<32 | 7, 1 << 62, 7 - 1<<63, math.MinInt64, math.MaxInt64}

// noLengths are lengths that a payload can't have.
var noLengths = []uint32{0, maxPayload + 1, maxPayload + 2, 2 * maxPayload, 1 << 16, 1<<16 | 2, 1 << 24, 1<<24 | 2, 1<<31 - 1, 1 << 31, 1<<31 | 2, math.MaxUint32}

// P10.1: Size.

func TestTheLimits(t *testing.T) {
	if frame.Head != 16 || api.MaxPayload != maxPayload || api.MaxSeq != maxSeq {
		t.Errorf("%d, %d, %d", frame.Head, api.MaxPayload, api.MaxSeq)
	}
}

func TestSizeIsTheHeadAndThePayload(t *testing.T) {
	for n := -100; n <= maxPayload+100; n++ {
		want := 16 + n
		if n < 1 || n > maxPayload {
			want = 0
		}
		if got := frame.Size(n); got != want {
			t.Errorf("Size(%d): %d, not %d", n, got, want)
		}
	}
}

func TestSizeOfTheLeastAndTheGreatestNumbers(t *testing.T) {
	for _, n := range []int{math.MinInt, math.MinInt + 1, math.MinInt + 16, math.MinInt32, -16, -15, 1 << 16, 1<<32 | 5, math.MaxInt32, math.MaxInt - 16, math.MaxInt - 15, math.MaxInt} {
		if got := frame.Size(n); got != 0 {
			t.Errorf("Size(%d): %d", n, got)
		}
	}
}

// P10.1: Make.

// written are frames, and their bytes written out.
var written = []struct {
	seq     int64
	payload string
	s       string
}{
	{7, "ab", "\x00\x00\x00\x02" + "\x00\x00\x00\x00\x00\x00\x00\x07" + "\x11\x8c\xc2\x53" + "ab"},
	{0, "a", "\x00\x00\x00\x01" + "\x00\x00\x00\x00\x00\x00\x00\x00" + "\x72\x7c\x03\xda" + "a"},
	{maxSeq - 1, "\x00\xff\x80", "\x00\x00\x00\x03" + "\x00\x00\x00\x00\x00\x0f\xff\xff" + "\xed\xdc\xe6\x3b" + "\x00\xff\x80"},
}

func TestFramesWrittenOut(t *testing.T) {
	for _, c := range written {
		if s := makes(t, c.seq, c.payload); s != c.s || len(s) != frame.Size(len(c.payload)) {
			t.Errorf("Make(%d, %q): % X, not % X", c.seq, c.payload, s, c.s)
		}
		f, next, e := frame.Read(c.s, 0)
		if want := (frame.Frame{Seq: c.seq, Payload: c.payload}); f != want || next != len(c.s) || e != api.OK {
			t.Errorf("Read(% X): %v, %d, %d", c.s, f, next, e)
		}
	}
}

func TestMakeIsTheBytesByTheWords(t *testing.T) {
	for _, seq := range numbers {
		for _, p := range payloads() {
			if s := makes(t, seq, p); s != spelt(seq, p) || len(s) != frame.Size(len(p)) {
				t.Errorf("Make(%d, %d bytes): % X", seq, len(p), s)
			}
		}
	}
}

func TestMakeOfEachLength(t *testing.T) {
	d := dice(11)
	all := d.text(maxPayload)
	for n := 1; n <= maxPayload; n++ {
		if s := makes(t, int64(n), all[:n]); len(s) != frame.Size(n) || s != spelt(int64(n), all[:n]) {
			t.Errorf("Make of %d bytes: %d", n, len(s))
		}
	}
}

// The errors' table, row of Make.

func TestPayloadsThatMayNotBe(t *testing.T) {
	for _, seq := range numbers {
		noFrame(t, seq, "", api.ErrForm)
		for _, n := range []int{maxPayload + 1, maxPayload + 2, 2 * maxPayload, 1 << 16, 1<<16 + 2, 1 << 20} {
			noFrame(t, seq, strings.Repeat("a", n), api.ErrTooLarge)
		}
	}
}

func TestANumberThatMayNotBeComesFirst(t *testing.T) {
	for _, seq := range noNumbers {
		for _, p := range []string{"", "a", strings.Repeat("a", maxPayload), strings.Repeat("a", maxPayload+1)} {
			noFrame(t, seq, p, api.ErrArg)
		}
	}
}

// P10.2: Read.

func TestReadTellsTheFrameWhereItStands(t *testing.T) {
	d := dice(12)
	for _, p := range payloads() {
		for _, seq := range numbers {
			ahead, behind := d.text(d.below(40)), d.text(d.below(40))
			s := spelt(seq, p)
			f, next, e := frame.Read(ahead+s+behind, len(ahead))
			if want := (frame.Frame{Seq: seq, Payload: p, At: len(ahead)}); f != want || next != len(ahead+s) || e != api.OK {
				t.Errorf("Read behind %d bytes: %v, %d, %d, not %v", len(ahead), f, next, e, want)
			}
		}
	}
}

func TestReadFromEachByteOfARow(t *testing.T) {
	s, ends := row(5, "ab", "c", spelt(7, "def"), strings.Repeat("\x00", 40))
	begins := append([]int{0}, ends[:len(ends)-1]...)
	for at := -3; at <= len(s)+3; at++ {
		e := reads(t, s, at)
		if slices.Contains(begins, at) && e != api.OK {
			t.Errorf("Read at %d, where a frame begins: %d", at, e)
		}
	}
	// A frame that stands in another one's payload is one, too.
	if f, next, e := frame.Read(s, ends[1]+16); f.Payload != "def" || next != ends[2] || e != api.OK {
		t.Errorf("%v, %d, %d", f, next, e)
	}
}

// The errors' table, row of Read.

func TestPlacesThatAreNone(t *testing.T) {
	for _, s := range []string{"", "a", strings.Repeat("a", 15), strings.Repeat("a", 16), spelt(7, "ab")} {
		for _, at := range []int{-1, -2, -16, math.MinInt32, math.MinInt, len(s) + 1, len(s) + 16, 1 << 32, math.MaxInt - 16, math.MaxInt} {
			refused(t, s, at, api.ErrArg)
		}
		refused(t, s, len(s), api.ErrShort)
	}
}

func TestFewerBytesThanAHead(t *testing.T) {
	for _, head := range []string{spelt(7, "a")[:16], claim(0, 7, ""), claim(1, maxSeq, ""), strings.Repeat("\xff", 16), strings.Repeat("\x00", 16)} {
		for n := range 16 {
			refused(t, head[:n], 0, api.ErrShort)
			refused(t, "ahead"+head[:n], 5, api.ErrShort)
		}
	}
	refused(t, spelt(7, "a")[:16], 0, api.ErrShort)
	refused(t, strings.Repeat("\x00", 16), 0, api.ErrForm)
	refused(t, strings.Repeat("\xff", 16), 0, api.ErrForm)
}

func TestLengthsThatMayNotBe(t *testing.T) {
	for _, n := range noLengths {
		// As many bytes as it says, if they are not too many, and a right checksum.
		whole := claim(n, 7, strings.Repeat("x", int(min(n, 1<<17))))
		for _, s := range []string{whole, whole[:16], whole + "more", whole[:12] + "sum?" + whole[16:], claim(n, 7, "ab"), claim(n, maxSeq, "ab")} {
			refused(t, s, 0, api.ErrForm)
			refused(t, "ahead"+s, 5, api.ErrForm)
		}
	}
	if e := reads(t, claim(maxPayload, 7, strings.Repeat("x", maxPayload)), 0); e != api.OK {
		t.Errorf("the longest one: %d", e)
	}
}

func TestNumbersThatMayNotBe(t *testing.T) {
	for _, seq := range noNumbers {
		whole := claim(2, uint64(seq), "ab")
		for _, s := range []string{whole, whole[:16], whole[:17], whole + "more", whole[:12] + "sum?" + whole[16:], claim(maxPayload, uint64(seq), "ab")} {
			refused(t, s, 0, api.ErrForm)
			refused(t, "ahead"+s, 5, api.ErrForm)
		}
	}
}

func TestFewerBytesThanAPayload(t *testing.T) {
	for _, p := range []string{"a", "ab", strings.Repeat("x", 100), strings.Repeat("\x00", maxPayload)} {
		s := spelt(maxSeq-1, p)
		for n := 16; n < len(s); n++ {
			refused(t, s[:n], 0, api.ErrShort)
			// That they are too few comes ahead of the checksum.
			refused(t, s[:12]+"sum?"+s[16:n], 0, api.ErrShort)
		}
	}
}

func TestAnotherChecksum(t *testing.T) {
	for _, p := range payloads() {
		head := said(uint32(len(p)), 7)
		of := func(s string) uint32 { return crc32.ChecksumIEEE([]byte(s)) }
		right := of(head + p)
		for name, sum := range map[string]uint32{
			"one more": right + 1, "turned": ^right, "of nothing": 0, "of the payload": of(p), "of the head": of(head),
			"without the length": of(head[4:] + p), "without the number": of(head[:4] + p), "the number ahead": of(head[4:] + head[:4] + p),
			"the payload ahead": of(p + head), "of four more bytes": of(head + "\x00\x00\x00\x00" + p),
		} {
			if sum == right {
				t.Fatalf("%s: it is the same", name)
			}
			refused(t, head+lowest(sum)+p, 0, api.ErrSum)
		}
		highest := string(binary.BigEndian.AppendUint32(nil, right))
		refused(t, head+highest+p, 0, api.ErrSum)
		if e := reads(t, head+lowest(right)+p, 0); e != api.OK {
			t.Errorf("the right one: %d", e)
		}
	}
}

// P10.2: Scan.

func TestScansFromEachPlace(t *testing.T) {
	s, _ := row(5, "ab", "c", spelt(7, "def"), strings.Repeat("\x00", 40), spelt(9, "g"))
	firsts := slices.Concat(numbers, noNumbers, []int64{3, 4, 5, 6, 8, 9, 10})
	for at := -3; at <= len(s)+3; at++ {
		for _, first := range firsts {
			scans(t, s, at, first)
			scans(t, s+"torn", at, first)
		}
	}
}

func TestAScanOfNothing(t *testing.T) {
	for _, s := range []string{"", "a", spelt(7, "ab")} {
		for _, first := range slices.Concat(numbers, noNumbers) {
			for _, at := range []int{-1, -16, math.MinInt, len(s) + 1, len(s) + 16, math.MaxInt} {
				scanned(t, s, at, first, nil, 0)
			}
			scanned(t, s, len(s), first, nil, len(s))
		}
	}
	scanned(t, "abc", 0, 0, nil, 0)
	scanned(t, "abc", 1, 0, nil, 1)
	scanned(t, "abc", 3, 0, nil, 3)
}

func TestAFirstNumberThatIsNotTheFirstFrames(t *testing.T) {
	for _, seq := range numbers {
		s := spelt(seq, "ab") + spelt(min(seq+1, maxSeq-1), "c")
		for _, first := range slices.Concat(numbers, noNumbers) {
			if first != seq {
				scanned(t, s, 0, first, nil, 0)
				scanned(t, "ahead"+s, 5, first, nil, 5)
			}
		}
	}
}

// Each frame is right in itself: only its number is another one than the next.
func TestANumberThatIsNotTheNextOne(t *testing.T) {
	d := dice(13)
	for _, first := range []int64{0, 1, 7, 255, 65534, maxSeq - 3} {
		p := d.text(d.length())
		ahead, ends := row(first, p, "b")
		for _, seq := range slices.Concat(numbers, []int64{first, first + 1, 3, 4}) {
			if seq != first+2 {
				behind := spelt(seq, "beside") + spelt(first+2, "c")
				scanned(t, ahead+behind, 0, first, []string{p, "b"}, ends[1])
			}
		}
		scanned(t, ahead+spelt(first+2, "c"), 0, first, []string{p, "b", "c"}, ends[1]+17)
	}
}

func TestNoScanGoesBeyondTheLastNumber(t *testing.T) {
	s, ends := row(maxSeq-3, "a", "b", "c", "d", "e")
	scanned(t, s, 0, maxSeq-3, []string{"a", "b", "c"}, ends[2])
	scanned(t, s, ends[1], maxSeq-1, []string{"c"}, ends[2])
	scanned(t, s, ends[2], maxSeq, nil, ends[2])
	scanned(t, claim(1, 1<<63, "a"), 0, math.MinInt64, nil, 0)
	scanned(t, claim(1, math.MaxUint64, "a")+claim(1, 0, "b"), 0, -1, nil, 0)
	scanned(t, claim(1, math.MaxInt64, "a"), 0, math.MaxInt64, nil, 0)
}

func TestAScanOfAWholeFile(t *testing.T) {
	var b strings.Builder
	n := 0
	for ; b.Len() <= api.MaxBytes-frame.Size(1); n++ {
		b.WriteString(spelt(int64(n), "x"))
	}
	l, good := frame.Scan(b.String(), 0, 0)
	if len(l) != n || good != b.Len() || l[n-1] != (frame.Frame{Seq: int64(n - 1), Payload: "x", At: good - 17}) {
		t.Errorf("%d frames of %d, %d", len(l), n, good)
	}
}

// P10.3: back.

// anyRow is a row of frames that are made, of any payloads.
func anyRow(t *testing.T, d *dice, most int) (first int64, l []string, s string, ends []int) {
	t.Helper()
	first = int64(d.below(maxSeq)) >> d.below(20)
	for range 1 + d.below(6) {
		if first+int64(len(l)) == maxSeq {
			break
		}
		l = append(l, d.text(min(d.length(), most)))
		s += makes(t, first+int64(len(l)-1), l[len(l)-1])
		ends = append(ends, len(s))
	}
	return first, l, s, ends
}

func TestFramesThatAreMadeAreScanned(t *testing.T) {
	d := dice(14)
	for range 500 {
		first, l, s, ends := anyRow(t, &d, maxPayload)
		scanned(t, s, 0, first, l, len(s))
		ahead := d.text(d.below(30))
		scanned(t, ahead+s, len(ahead), first, l, len(ahead+s))
		for i, end := range ends {
			scanned(t, s, end, first+int64(i)+1, l[i+1:], len(s))
		}
	}
	for _, first := range numbers {
		for _, p := range payloads() {
			s, _ := row(first, p)
			scanned(t, s, 0, first, []string{p}, len(s))
		}
	}
}

// whole tells how many frames are whole in the first n bytes, and where the
// last one of them ends.
func whole(ends []int, n int) (frames, good int) {
	for i, end := range ends {
		if end <= n {
			frames, good = i+1, end
		}
	}
	return frames, good
}

func TestARowCutShortAtEachByte(t *testing.T) {
	d := dice(15)
	for range 30 {
		first, l, s, ends := anyRow(t, &d, 200)
		for n := range len(s) + 1 {
			k, good := whole(ends, n)
			scanned(t, s[:n], 0, first, l[:k], good)
			scanned(t, "ahead"+s[:n], 5, first, l[:k], 5+good)
		}
	}
	s, ends := row(7, strings.Repeat("\x00", maxPayload), strings.Repeat("\x00", maxPayload))
	for n := range len(s) + 1 {
		k, good := whole(ends, n)
		if l, got := frame.Scan(s[:n], 0, 7); len(l) != k || got != good {
			t.Fatalf("cut at %d: %d frames, %d", n, len(l), got)
		}
	}
}

func TestARowCutShortWithOtherBytesBehind(t *testing.T) {
	d := dice(16)
	for range 30 {
		first, l, s, ends := anyRow(t, &d, 60)
		for n := range len(s) + 1 {
			k, good := whole(ends, n)
			for _, behind := range []string{"\x00", strings.Repeat("\x00", 40), strings.Repeat("\xff", 40), d.text(1 + d.below(100)), spelt(min(first+9, maxSeq-1), "another")} {
				// Bytes behind may be just those that were cut off.
				if n == len(s) || !strings.HasPrefix(behind, s[n:n+1]) {
					scanned(t, s[:n]+behind, 0, first, l[:k], good)
				}
				scans(t, s[:n]+behind, 0, first)
			}
		}
	}
}

// P10.4: just one.

// again makes what is read at a place again, and holds it against the bytes.
func again(t *testing.T, s string, at int) bool {
	t.Helper()
	f, next, e := frame.Read(s, at)
	if e != api.OK {
		return false
	}
	if made := makes(t, f.Seq, f.Payload); made != s[at:next] || f.At != at || next != at+frame.Size(len(f.Payload)) {
		t.Errorf("Read at %d: %v, %d; made again % X", at, f, next, made)
	}
	return true
}

// near are bytes that are nearly a row of frames: of frames, of what only
// claims to be one, and of whatever bytes, with some bits turned.
func (d *dice) near() string {
	s, seq := "", uint64(d.below(20))
	for range 1 + d.below(5) {
		p := d.text(min(d.length(), 100))
		n := uint32(len(p))
		switch d.below(12) {
		case 0:
			n += uint32(d.below(5)) - 2
		case 1:
			n = uint32(d.next() >> d.below(64))
		case 2:
			seq = d.next() >> d.below(64)
		case 3:
			seq += uint64(d.below(3)) - 1
		case 4:
			s += d.text(d.below(20))
		}
		s += claim(n, seq, p)
		seq++
	}
	if d.below(3) == 0 {
		s = turned(s, d.below(8*len(s)), 1)
	}
	return s[:len(s)-d.below(4)/3*d.below(len(s))]
}

func TestWhatIsReadMadeAgainIsTheBytes(t *testing.T) {
	d := dice(17)
	seen := 0
	for range 1500 {
		s := d.near()
		for at := -1; at <= len(s)+1; at++ {
			if again(t, s, at) {
				seen++
			}
		}
	}
	if seen < 1000 {
		t.Errorf("%d frames were read", seen)
	}
}

func TestWhateverBytesByTheWords(t *testing.T) {
	d := dice(18)
	seen := map[api.Errno]int{}
	for range 1500 {
		s := d.near()
		for at := -1; at <= len(s)+1; at++ {
			seen[reads(t, s, at)]++
		}
		for range 20 {
			scans(t, s, d.below(len(s)+3)-1, int64(d.below(22))-1)
		}
		for first := range int64(20) {
			scans(t, s, 0, first)
		}
	}
	for _, e := range []api.Errno{api.OK, api.ErrArg, api.ErrForm, api.ErrShort, api.ErrSum} {
		if seen[e] < 500 {
			t.Errorf("%d was seen %d times", e, seen[e])
		}
	}
}

// P10.5: a burst.

// turned is s with the bits of pattern turned, from the bit at on, the lowest
// bit of each byte first.
func turned(s string, at int, pattern uint32) string {
	b := []byte(s)
	for i := at; pattern != 0; i, pattern = i+1, pattern>>1 {
		b[i/8] ^= byte(pattern&1) << (i % 8)
	}
	return string(b)
}

// parts are the bytes of a frame's number, of its checksum, of its payload.
func parts(s string) [][2]int { return [][2]int{{4, 12}, {12, 16}, {16, len(s)}} }

// spoilt says what is wrong, if a frame with a burst is read, or scanned.
func spoilt(t *testing.T, s string, at int, pattern uint32) {
	t.Helper()
	x := turned(s, at, pattern)
	f, next, e := frame.Read(x, 0)
	if e == api.OK || next != 0 || f != (frame.Frame{}) {
		t.Errorf("%d bytes, %X turned from bit %d on: %v, %d, %d", len(s), pattern, at, f, next, e)
	}
	if e == api.ErrShort {
		t.Errorf("%d bytes, %X turned from bit %d on: bytes are missing", len(s), pattern, at)
	}
}

func TestEachSingleBitTurned(t *testing.T) {
	for _, p := range []string{"a", "ab", spelt(7, "ab"), strings.Repeat("\x00", 70), strings.Repeat("souk", maxPayload/4)} {
		s := spelt(7, p)
		for _, part := range parts(s) {
			for at := 8 * part[0]; at < 8*part[1]; at++ {
				spoilt(t, s, at, 1)
			}
		}
	}
}

func TestBurstsOfUpTo32Bits(t *testing.T) {
	d := dice(19)
	for _, seq := range []int64{0, 1, 7, 65535, maxSeq - 1} {
		for _, p := range []string{"a", "abcd", d.text(11)} {
			s := spelt(seq, p)
			for _, part := range parts(s) {
				burstsIn(t, &d, s, 8*part[0], 8*part[1])
			}
		}
	}
	s := spelt(maxSeq/2, d.text(maxPayload))
	for range 20000 {
		part := parts(s)[d.below(3)]
		width := 1 + d.below(32)
		at := 8*part[0] + d.below(8*(part[1]-part[0])-width+1)
		spoilt(t, s, at, pattern(&d, width))
	}
}

// pattern is bits in a row, of which the first and the last one are turned.
func pattern(d *dice, width int) uint32 {
	last := uint32(1) << (width - 1)
	return 1 | last | uint32(d.next()>>16)&(last-1)
}

// burstsIn turns bits of each width, from each place on, within some of s.
func burstsIn(t *testing.T, d *dice, s string, from, to int) {
	t.Helper()
	for width := 1; width <= min(32, to-from); width++ {
		all := ^uint32(0) >> (32 - width)
		for at := from; at+width <= to; at++ {
			for _, bits := range []uint32{all, 1 | 1<<(width-1), pattern(d, width), pattern(d, width)} {
				spoilt(t, s, at, bits)
			}
		}
	}
}

// A number that is turned into another one that may be is no frame of that one.
func TestANumberTurnedIntoAnotherOne(t *testing.T) {
	for _, seq := range numbers {
		for _, other := range numbers {
			s := spelt(seq, "ab")
			if s = said(2, uint64(other)) + s[12:]; seq != other {
				refused(t, s, 0, api.ErrSum)
				scanned(t, s, 0, other, nil, 0)
				scanned(t, s, 0, seq, nil, 0)
			}
		}
	}
}

func TestAScanEndsAheadOfABurst(t *testing.T) {
	d := dice(20)
	for range 2000 {
		first, l, s, ends := anyRow(t, &d, 200)
		k := d.below(len(l))
		from, to := whole(ends[:k], len(s))
		part := parts(s[to:ends[k]])[d.below(3)]
		width := 1 + d.below(min(32, 8*(part[1]-part[0])))
		at := 8*(to+part[0]) + d.below(8*(part[1]-part[0])-width+1)
		scanned(t, turned(s, at, pattern(&d, width)), 0, first, l[:from], to)
	}
}

// P10.6: behind.

func TestWhatIsScannedStaysWhateverStandsBehind(t *testing.T) {
	d := dice(21)
	more := 0
	for range 600 {
		first, _, s, _ := anyRow(t, &d, 100)
		s = s[:len(s)-d.below(2)*d.below(len(s))] + d.text(d.below(2)*d.below(40))
		l, good := frame.Scan(s, 0, first)
		next := min(first+int64(len(l)), maxSeq-1)
		torn := spelt(next, "torn")
		for _, behind := range []string{"\x00", d.text(d.below(60)), d.near(), torn, torn[:d.below(len(torn))], spelt(0, "a")} {
			long, end := frame.Scan(s+behind, 0, first)
			if len(long) < len(l) || end < good || !slices.Equal(long[:len(l)], l) {
				t.Errorf("%d bytes: %d frames, %d; with %d behind %d, %d", len(s), len(l), good, len(behind), len(long), end)
			}
			more += len(long) - len(l)
		}
	}
	if more < 50 {
		t.Errorf("%d more were scanned", more)
	}
}

func TestWhatWasTornBecomesWhole(t *testing.T) {
	d := dice(23)
	for range 100 {
		first, l, s, ends := anyRow(t, &d, 60)
		for n := range len(s) + 1 {
			k, good := whole(ends, n)
			scanned(t, s[:n], 0, first, l[:k], good)
			scanned(t, s[:n]+s[n:], 0, first, l, len(s))
			if next := first + int64(k); next < maxSeq {
				scanned(t, s[:good]+spelt(next, "instead"), 0, first, append(slices.Clone(l[:k]), "instead"), good+23)
			}
		}
	}
}

// R1.

func TestWhatIsToldMayBeWrittenOver(t *testing.T) {
	s, ends := row(5, "ab", "c", "def")
	l, _ := frame.Scan(s, 0, 5)
	other, _ := frame.Scan(s, 0, 5)
	for i := range l {
		l[i] = frame.Frame{Seq: -1, Payload: "over", At: -1}
	}
	l = append(l[:1], frame.Frame{})
	want, _ := slowScan(s, 0, 5)
	if !slices.Equal(other, want) || len(l) != 2 {
		t.Errorf("%v, not %v", other, want)
	}
	scanned(t, s, 0, 5, []string{"ab", "c", "def"}, ends[2])
}

func TestWhatIsHandedInStays(t *testing.T) {
	d := dice(22)
	for range 200 {
		s, p := d.near(), d.text(d.length())
		was, payload := strings.Clone(s), strings.Clone(p)
		made := makes(t, 7, p)
		kept := strings.Clone(made)
		f, _, _ := frame.Read(made, 0)
		frame.Scan(s, 0, 0)
		frame.Scan(made+s, 0, 7)
		if s != was || p != payload || made != kept || f.Payload != payload {
			t.Fatal("what was handed in is another one")
		}
	}
}

// The chapter's examples.

func TestExamples(t *testing.T) {
	one, two := makes(t, 7, "ab"), makes(t, 8, "ab")
	if len(one) != 18 || one[:12] != "\x00\x00\x00\x02\x00\x00\x00\x00\x00\x00\x00\x07" || one[16:] != "ab" {
		t.Errorf("% X", one)
	}
	s := one + two[:17]
	scanned(t, s, 0, 7, []string{"ab"}, 18)
	scanned(t, s, 0, 8, nil, 0)
	scanned(t, one+two, 0, 7, []string{"ab", "ab"}, 36)
	scanned(t, one+two, 18, 8, []string{"ab"}, 36)
}
