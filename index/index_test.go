package index_test

import (
	"encoding/binary"
	"fmt"
	"hash/crc32"
	"math"
	"slices"
	"strings"
	"testing"

	"souk/api"
	"souk/index"
	"souk/seg"
)

// The limits, by the words of the document.
const (
	maxPayload = 4096
	maxSeq     = 1048576
	maxBytes   = 1048576
)

// dice tells numbers that look like any, the same ones in each run.
type dice uint64

func (d *dice) next() uint64 {
	*d ^= *d << 13
	*d ^= *d >> 7
	*d ^= *d << 17
	return uint64(*d) * 0x2545F4914F6CDD1D
}

func (d *dice) below(n int) int { return int(d.next() >> 1 % uint64(n)) }

func (d *dice) text(n int) string {
	b := make([]byte, n)
	for i := range b {
		b[i] = byte(d.next() >> 24)
	}
	return string(b)
}

// payloads are just so many, each of most bytes at most.
func (d *dice) payloads(count, most int) []string {
	var l []string
	for range count {
		l = append(l, d.text(1+d.below(most)>>d.below(8)))
	}
	return l
}

// summed is a text with its checksum behind it, the lowest byte first.
func summed(s string) string {
	return s + string(binary.LittleEndian.AppendUint32(nil, crc32.ChecksumIEEE([]byte(s))))
}

// claim is what has a header's form and the right checksum, whether the word
// and the number may be or not.
func claim(word string, first uint64) string {
	return summed(word + string(binary.BigEndian.AppendUint64(nil, first)))
}

// head is a header by the words of the document.
func head(first int64) string { return claim("seg1", uint64(first)) }

// spelt is a frame by the words of the document.
func spelt(seq int64, payload string) string {
	b := binary.BigEndian.AppendUint32(nil, uint32(len(payload)))
	b = binary.BigEndian.AppendUint64(b, uint64(seq))
	sum := crc32.ChecksumIEEE([]byte(string(b) + payload))
	return string(binary.LittleEndian.AppendUint32(b, sum)) + payload
}

// segment is a segment by the words of the document, and where its header and
// each frame end.
func segment(first int64, payloads []string) (s string, ends []int) {
	var b strings.Builder
	b.WriteString(head(first))
	ends = []int{b.Len()}
	for i, p := range payloads {
		b.WriteString(spelt(first+int64(i), p))
		ends = append(ends, b.Len())
	}
	return b.String(), ends
}

// parsed is the frame at a place, by the words of the document.
func parsed(s string, at int) (seq int64, payload string, e api.Errno) {
	if at > len(s) || len(s)-at < 16 {
		return 0, "", api.ErrShort
	}
	b := []byte(s[at:])
	n, number := binary.BigEndian.Uint32(b), binary.BigEndian.Uint64(b[4:])
	if n < 1 || n > maxPayload || number >= maxSeq {
		return 0, "", api.ErrForm
	}
	if len(b) < 16+int(n) {
		return 0, "", api.ErrShort
	}
	payload = s[at+16 : at+16+int(n)]
	if crc32.ChecksumIEEE([]byte(s[at:at+12]+payload)) != binary.LittleEndian.Uint32(b[12:]) {
		return 0, "", api.ErrSum
	}
	return int64(number), payload, api.OK
}

// slow is an index by the words of the document: of each frame the place, and
// whether it has a mark.
type slow struct {
	every  int
	first  int64
	places []int
	marks  []index.Mark
	good   int
}

func (x *slow) next() int64 { return x.first + int64(len(x.places)) }

// add is one frame more.
func (x *slow) add(n int) int {
	at := x.good
	if len(x.places)%x.every == 0 {
		x.marks = append(x.marks, index.Mark{Seq: x.next(), At: at})
	}
	x.places = append(x.places, at)
	x.good += 16 + n
	return at
}

// slowBuild is the index of bytes that begin by a right header.
func slowBuild(s string, every int) *slow {
	x := slow{every: every, first: int64(binary.BigEndian.Uint64([]byte(s[4:]))), good: 16}
	for {
		seq, payload, e := parsed(s, x.good)
		if e != api.OK || seq != x.next() {
			return &x
		}
		x.add(len(payload))
	}
}

// mark is the last one not beyond a number of the index.
func (x *slow) mark(seq int64) index.Mark {
	var m index.Mark
	for _, one := range x.marks {
		if one.Seq <= seq {
			m = one
		}
	}
	return m
}

func (x *slow) has(seq int64) bool { return x.first <= seq && seq < x.next() }

func (x *slow) steps(seq int64) int {
	if !x.has(seq) {
		return 0
	}
	return int(seq - x.mark(seq).Seq + 1)
}

func (x *slow) get(s string, seq int64) (string, api.Errno) {
	if !x.has(seq) {
		return "", api.ErrNone
	}
	m := x.mark(seq)
	for at := m.At; ; {
		got, payload, e := parsed(s, at)
		switch {
		case e != api.OK:
			return "", e
		case got != m.Seq:
			return "", api.ErrForm
		case got == seq:
			return payload, api.OK
		}
		at += 16 + len(payload)
		m.Seq++
	}
}

// everies are edges of every that may be, and some between.
var everies = []int{1, 2, 3, 7, 62, 63, 64}

// noEveries are numbers that every may not be.
var noEveries = []int{0, -1, -2, -64, 65, 66, 128, 256, 257, 1 << 32, 1<<32 | 2, math.MinInt, math.MinInt32, math.MaxInt32, math.MaxInt}

// numbers are the edges of a first batch's number, and some between.
var numbers = []int64{0, 1, 5, 63, 64, 65, 255, 256, 65535, 65536, 999999, maxSeq - 2, maxSeq - 1, maxSeq}

// noNumbers are numbers that a first batch can't have.
var noNumbers = []int64{-1, -2, -64, -maxSeq, maxSeq + 1, 2 * maxSeq, 1 << 32, 1<<32 | 5, 1 << 62, 5 - 1<<63, math.MinInt64, math.MaxInt64}

// noLengths are lengths that no payload has.
var noLengths = []int{0, -1, -2, -15, -16, -17, -4096, 4097, 4098, 1 << 16, 1 << 32, 1<<32 | 1, math.MinInt, math.MinInt + 1, math.MinInt32, math.MaxInt - 16, math.MaxInt}

// built tells the index of bytes.
func built(t *testing.T, s string, every int) *index.Index {
	t.Helper()
	x, e := index.Build(s, every)
	if e != api.OK || x == nil {
		t.Fatalf("Build(%d bytes, %d): %v, %d", len(s), every, x, e)
	}
	return x
}

// refused says what is wrong with how Build refuses.
func refused(t *testing.T, s string, every int, want api.Errno) {
	t.Helper()
	if x, e := index.Build(s, every); x != nil || e != want {
		t.Errorf("Build(% X, %d): %v, %d, not %d", s, every, x, e, want)
	}
}

// told is all that an index tells without bytes.
func told(x *index.Index) string {
	return fmt.Sprint(x.First(), x.Next(), x.Good(), x.Marks())
}

// around are numbers that an index has, those about them, and others.
func around(x *slow) []int64 {
	l := []int64{math.MinInt64, math.MinInt64 + 1, -maxSeq, -1, 0, maxSeq - 1, maxSeq, 1 << 32, 1<<32 + x.first, math.MaxInt64 - 1, math.MaxInt64}
	for seq := x.first - 3; seq <= x.next()+3; seq++ {
		l = append(l, seq)
	}
	return l
}

// same says what is wrong, if an index does not tell what the slow one does.
func same(t *testing.T, what string, x *index.Index, want *slow) {
	t.Helper()
	if x.First() != want.first || x.Next() != want.next() || x.Good() != want.good || !slices.Equal(x.Marks(), want.marks) {
		t.Errorf("%s, by %d: %s, not %d %d %d %v", what, want.every, told(x), want.first, want.next(), want.good, want.marks)
	}
	for _, seq := range around(want) {
		if n := x.Steps(seq); n != want.steps(seq) {
			t.Errorf("%s, by %d: Steps(%d): %d, not %d", what, want.every, seq, n, want.steps(seq))
		}
	}
}

// gets says what is wrong, if an index does not get of bytes what the slow one
// does.
func gets(t *testing.T, what string, x *index.Index, want *slow, s string) {
	t.Helper()
	for _, seq := range around(want) {
		got, e := x.Get(s, seq)
		payload, err := want.get(s, seq)
		if got != payload || e != err {
			t.Errorf("%s, by %d: Get(%d bytes, %d): %q, %d, not %q, %d", what, want.every, len(s), seq, got, e, payload, err)
		}
	}
}

// checked says what is wrong with the index of bytes that begin by a right
// header, and tells it and the slow one.
func checked(t *testing.T, what string, s string, every int) (*index.Index, *slow) {
	t.Helper()
	x, want := built(t, s, every), slowBuild(s, every)
	same(t, what, x, want)
	gets(t, what, x, want, s)
	return x, want
}

// counts are how many frames the segments have that an every is tested by.
func counts(every int) []int {
	return []int{0, 1, max(every-1, 0), every, every + 1, 2*every - 1, 2 * every, 2*every + 1, 5*every + every/2}
}

// row is so many payloads of so many bytes.
func row(count, size int) []string { return slices.Repeat([]string{strings.Repeat("x", size)}, count) }

// The chapter's examples.

// example is the chapter's segment, written out.
const example = "\x73\x65\x67\x31" + "\x00\x00\x00\x00\x00\x00\x00\x05" + "\x06\x90\x99\x73" +
	"\x00\x00\x00\x02" + "\x00\x00\x00\x00\x00\x00\x00\x05" + "\x7f\x58\x46\x50" + "ab" +
	"\x00\x00\x00\x01" + "\x00\x00\x00\x00\x00\x00\x00\x06" + "\xd8\xba\x57\x62" + "c" +
	"\x00\x00\x00\x03" + "\x00\x00\x00\x00\x00\x00\x00\x07" + "\xdd\xd1\x1f\xce" + "def"

func TestTheExample(t *testing.T) {
	x := built(t, example, 2)
	if l := x.Marks(); !slices.Equal(l, []index.Mark{{Seq: 5, At: 16}, {Seq: 7, At: 51}}) {
		t.Errorf("marks: %v", l)
	}
	if x.First() != 5 || x.Next() != 8 || x.Good() != 70 {
		t.Errorf("from %d, next %d, good %d", x.First(), x.Next(), x.Good())
	}
	for _, c := range []struct {
		seq     int64
		payload string
		steps   int
		e       api.Errno
	}{{4, "", 0, api.ErrNone}, {5, "ab", 1, api.OK}, {6, "c", 2, api.OK}, {7, "def", 1, api.OK}, {8, "", 0, api.ErrNone}} {
		if p, e := x.Get(example, c.seq); p != c.payload || e != c.e {
			t.Errorf("Get of %d: %q, %d", c.seq, p, e)
		}
		if n := x.Steps(c.seq); n != c.steps {
			t.Errorf("Steps of %d: %d", c.seq, n)
		}
	}
	if s, e := seg.Join(5, []string{"ab", "c", "def"}); s != example || e != api.OK {
		t.Errorf("Join: % X, %d", s, e)
	}
}

func TestTheLimits(t *testing.T) {
	if api.MaxPayload != maxPayload || api.MaxSeq != maxSeq || api.MaxBytes != maxBytes {
		t.Errorf("%d, %d, %d", api.MaxPayload, api.MaxSeq, api.MaxBytes)
	}
}

// The errors' table, row of Build.

func TestEveryThatMayNotBe(t *testing.T) {
	s, _ := segment(5, []string{"ab", "c", "def"})
	for _, every := range noEveries {
		for _, bytes := range []string{s, head(5), "", "seg", s[:15], "x" + s, claim("seg2", 5), claim("seg1", maxSeq+1), s[:15] + "?"} {
			refused(t, bytes, every, api.ErrArg)
		}
	}
	for every := 1; every <= 64; every++ {
		checked(t, "the example", s, every)
	}
}

func TestBytesThatAreNoSegment(t *testing.T) {
	s, _ := segment(5, []string{"ab", "c", "def"})
	for _, every := range everies {
		for n := range 16 {
			refused(t, s[:n], every, api.ErrShort)
			refused(t, claim("seg2", 5)[:n], every, api.ErrShort)
			refused(t, claim("seg1", maxSeq+1)[:n], every, api.ErrShort)
		}
		for _, word := range []string{"seg0", "seg2", "Seg1", "man1", " seg", "\x00\x00\x00\x00"} {
			refused(t, claim(word, 5)+s[16:], every, api.ErrForm)
			refused(t, claim(word, 5)[:15]+"?"+s[16:], every, api.ErrForm)
		}
		for _, first := range noNumbers {
			refused(t, claim("seg1", uint64(first)), every, api.ErrForm)
			refused(t, claim("seg1", uint64(first))+spelt(first, "ab"), every, api.ErrForm)
			refused(t, claim("seg1", uint64(first))[:15]+"?"+spelt(first, "ab"), every, api.ErrSum)
		}
		refused(t, "x"+s, every, api.ErrForm)
		for at := 4; at < 16; at++ {
			for bit := range 8 {
				refused(t, turned(s, at, bit), every, api.ErrSum)
			}
		}
	}
}

// turned is bytes of which a single bit is turned.
func turned(s string, at, bit int) string {
	b := []byte(s)
	b[at] ^= 1 << bit
	return string(b)
}

func TestBuildAnswersWhatScanAnswers(t *testing.T) {
	d := dice(1)
	for range 3000 {
		s, _ := segment(numbers[d.below(len(numbers)-1)], d.payloads(1, 20))
		s = s[:d.below(len(s)+1)] + d.text(d.below(3))
		if len(s) > 0 && d.below(2) == 0 {
			s = turned(s, d.below(min(len(s), 20)), d.below(8))
		}
		whole, want := seg.Scan(s)
		x, e := index.Build(s, 1+d.below(64))
		if e != want || (x == nil) != (want != api.OK) || x.First() != whole.First || x.Good() != whole.Good {
			t.Errorf("Build(% X): %v, %d, not %d", s, x, e, want)
		}
	}
}

// P12.1: Build, Marks, First, Next, Good.

func TestASegmentOfAHeaderAlone(t *testing.T) {
	for _, first := range numbers {
		for _, every := range everies {
			for _, behind := range []string{"", "x", strings.Repeat("\x00", 40), spelt(first, "ab")[:17]} {
				x, _ := checked(t, "a header", head(first)+behind, every)
				if x.First() != first || x.Next() != first || x.Good() != 16 || len(x.Marks()) != 0 {
					t.Errorf("from %d: %s", first, told(x))
				}
			}
		}
	}
}

func TestSegmentsOfSoManyFrames(t *testing.T) {
	d := dice(2)
	for _, every := range everies {
		for _, count := range counts(every) {
			for _, first := range []int64{0, 1, 5, 64, 65536, maxSeq - int64(count)} {
				s, ends := segment(first, d.payloads(count, 60))
				x, want := checked(t, "whole", s, every)
				if x.First() != first || x.Next() != first+int64(count) || x.Good() != len(s) {
					t.Errorf("from %d, %d frames: %s", first, count, told(x))
				}
				if len(want.places) != count || !slices.Equal(want.places, ends[:count]) {
					t.Errorf("from %d, %d frames: %v, not %v", first, count, want.places, ends)
				}
			}
		}
	}
}

func TestASegmentCutShortAtEachByte(t *testing.T) {
	d := dice(3)
	for _, every := range []int{1, 2, 3, 64} {
		payloads := d.payloads(7, 30)
		s, ends := segment(5, payloads)
		for n := 16; n <= len(s); n++ {
			whole := 0
			for _, end := range ends[1:] {
				if end <= n {
					whole++
				}
			}
			x, _ := checked(t, "cut short", s[:n], every)
			if x.Next() != 5+int64(whole) || x.Good() != ends[whole] {
				t.Errorf("%d bytes: %s", n, told(x))
			}
		}
	}
}

func TestOtherBytesBehind(t *testing.T) {
	d := dice(4)
	for _, every := range []int{1, 2, 3, 64} {
		s, ends := segment(5, d.payloads(7, 30))
		for i, end := range ends {
			next := 5 + int64(i)
			for _, behind := range []string{
				"x", d.text(15), d.text(16), d.text(40), head(next), strings.Repeat("\x00", 40), strings.Repeat("\xff", 40),
				spelt(next-1, "ab"), spelt(next+1, "ab"), spelt(0, "ab"), spelt(maxSeq-1, "ab"), turned(spelt(next, "ab"), 17, 0),
				spelt(next, strings.Repeat("x", maxPayload+1)), spelt(next+1, "ab") + spelt(next, "ab"),
			} {
				x, _ := checked(t, "other bytes behind", s[:end]+behind, every)
				if x.Next() != next || x.Good() != end {
					t.Errorf("%d frames: %s", i, told(x))
				}
			}
			x, _ := checked(t, "one more behind", s[:end]+spelt(next, "ab")+"?", every)
			if x.Next() != next+1 || x.Good() != end+18 {
				t.Errorf("%d frames and one: %s", i, told(x))
			}
		}
	}
}

func TestAFullFile(t *testing.T) {
	s, _ := segment(3, row((maxBytes-16)/17, 1))
	for _, every := range []int{1, 2, 63, 64} {
		x, want := built(t, s, every), slowBuild(s, every)
		if x.Next() != want.next() || x.Good() != len(s) || !slices.Equal(x.Marks(), want.marks) {
			t.Errorf("by %d: %d, %d, %d marks", every, x.Next(), x.Good(), len(x.Marks()))
		}
		for seq := int64(0); seq < x.Next()+70; seq += 61 {
			p, e := x.Get(s, seq)
			if payload, err := want.get(s, seq); p != payload || e != err {
				t.Errorf("by %d: Get of %d: %q, %d", every, seq, p, e)
			}
			if x.Steps(seq) != want.steps(seq) {
				t.Errorf("by %d: Steps of %d: %d", every, seq, x.Steps(seq))
			}
		}
	}
}

// P12.1: Add.

func TestAddTellsWhereTheFrameStands(t *testing.T) {
	for _, every := range everies {
		x := built(t, head(5), every)
		at := 16
		for i, n := range []int{1, 2, maxPayload, maxPayload - 1, 17, 1, 1, 100, 3, maxPayload} {
			if got, e := x.Add(n); got != at || e != api.OK {
				t.Errorf("Add(%d): %d, %d, not %d", n, got, e, at)
			}
			at += 16 + n
			if x.First() != 5 || x.Next() != 6+int64(i) || x.Good() != at {
				t.Errorf("%d added: %s", i+1, told(x))
			}
		}
	}
}

// The errors' table, row of Add.

func TestAddOfLengthsThatNoPayloadHas(t *testing.T) {
	for _, first := range []int64{0, 5, maxSeq - 1, maxSeq} {
		for _, payloads := range [][]string{nil, {"ab"}} {
			if first == maxSeq {
				payloads = nil
			}
			s, _ := segment(first, payloads)
			x := built(t, s, 2)
			was := told(x)
			for _, n := range noLengths {
				if at, e := x.Add(n); at != 0 || e != api.ErrForm {
					t.Errorf("from %d: Add(%d): %d, %d", first, n, at, e)
				}
			}
			if told(x) != was {
				t.Errorf("from %d: %s, not %s", first, told(x), was)
			}
		}
	}
}

func TestAddAtTheLastNumber(t *testing.T) {
	for _, every := range []int{1, 2, 64} {
		for _, count := range []int{0, 1, 2, 5} {
			first := int64(maxSeq - 1 - count)
			s, _ := segment(first, row(count, 3))
			x, want := built(t, s, every), slowBuild(s, every)
			if x.Next() != maxSeq-1 {
				t.Fatalf("next %d", x.Next())
			}
			if at, e := x.Add(4); at != len(s) || e != api.OK || x.Next() != maxSeq {
				t.Errorf("Add: %d, %d; next %d", at, e, x.Next())
			}
			want.add(4)
			for _, n := range []int{1, 2, maxPayload} {
				if at, e := x.Add(n); at != 0 || e != api.ErrTooLarge {
					t.Errorf("Add(%d): %d, %d", n, at, e)
				}
			}
			same(t, "at the last number", x, want)
		}
		x := built(t, head(maxSeq), every)
		if at, e := x.Add(1); at != 0 || e != api.ErrTooLarge || x.Next() != maxSeq || len(x.Marks()) != 0 || x.Good() != 16 {
			t.Errorf("Add: %d, %d; %s", at, e, told(x))
		}
	}
}

// P12.4 (goes on).

func TestAddedOneByOne(t *testing.T) {
	d := dice(5)
	for every := 1; every <= 64; every++ {
		for _, count := range []int{1, every, 2*every + 1} {
			payloads := d.payloads(count, 40)
			first := numbers[d.below(11)]
			s, ends := segment(first, payloads)
			var wholes []string
			for _, end := range ends {
				wholes = append(wholes, told(built(t, s[:end], every)))
			}
			begins := []int{0, 1, count / 2, max(every-1, 0), every, every + 1, count - 1, count}
			for _, begin := range begins {
				if begin > count {
					continue
				}
				x := built(t, s[:ends[begin]], every)
				for i := begin; i < count; i++ {
					at, e := x.Add(len(payloads[i]))
					if at != ends[i] || e != api.OK {
						t.Errorf("by %d: frame %d at %d, %d, not %d", every, i, at, e, ends[i])
					}
					if told(x) != wholes[i+1] {
						t.Errorf("by %d, from %d frames on, %d: %s, not %s", every, begin, i+1, told(x), wholes[i+1])
					}
				}
				want := slowBuild(s, every)
				same(t, "added", x, want)
				gets(t, "added", x, want, s)
			}
		}
	}
}

func TestAddedToEachBeginning(t *testing.T) {
	d := dice(14)
	payloads := d.payloads(12, 30)
	s, ends := segment(7, payloads)
	for every := 1; every <= 64; every++ {
		whole := told(built(t, s, every))
		for begin := range ends {
			for _, torn := range []string{"", "?", "\x00\x00\x00\x01"} {
				x := built(t, s[:ends[begin]]+torn, every)
				for i := begin; i < len(payloads); i++ {
					if at, e := x.Add(len(payloads[i])); at != ends[i] || e != api.OK {
						t.Errorf("by %d: %d, %d, not %d", every, at, e, ends[i])
					}
				}
				if told(x) != whole {
					t.Errorf("by %d, from %d frames on: %s, not %s", every, begin, told(x), whole)
				}
			}
		}
	}
}

func TestAddedToTheLastNumberOfAll(t *testing.T) {
	s, _ := segment(0, row(3, 1))
	for _, every := range []int{1, 63, 64} {
		x := built(t, s, every)
		for x.Next() < maxSeq {
			if at, e := x.Add(1); e != api.OK || at != 16+17*int(x.Next()-1) {
				t.Fatalf("Add: %d, %d", at, e)
			}
		}
		if at, e := x.Add(1); at != 0 || e != api.ErrTooLarge {
			t.Errorf("Add: %d, %d", at, e)
		}
		l := x.Marks()
		if len(l) != (maxSeq+every-1)/every || x.Good() != 16+17*maxSeq {
			t.Errorf("%d marks, good %d", len(l), x.Good())
		}
		for i, m := range l {
			if m.Seq != int64(i*every) || m.At != 16+17*i*every {
				t.Fatalf("mark %d: %v", i, m)
			}
		}
		for _, seq := range []int64{0, 1, 62, 63, 64, 65, 100000, maxSeq - 1} {
			if n := x.Steps(seq); n != int(seq)%every+1 {
				t.Errorf("by %d: Steps of %d: %d", every, seq, n)
			}
		}
	}
}

// P12.5 (marks).

func TestMarksRise(t *testing.T) {
	d := dice(6)
	for every := 1; every <= 64; every++ {
		count := 1 + d.below(4*every+3)
		first := numbers[d.below(11)]
		s, ends := segment(first, d.payloads(count, 25))
		x := built(t, s, every)
		for more := range 3 {
			l := x.Marks()
			if len(l) != (count+more+every-1)/every {
				t.Errorf("by %d: %d marks of %d frames", every, len(l), count+more)
			}
			if l[0] != (index.Mark{Seq: first, At: 16}) {
				t.Errorf("by %d: the first one is %v", every, l[0])
			}
			for i, m := range l {
				if m.Seq != first+int64(i*every) || m.At != ends[i*every] {
					t.Errorf("by %d: mark %d: %v, not at %d", every, i, m, ends[i*every])
				}
			}
			x.Add(5)
			ends = append(ends, ends[len(ends)-1]+21)
		}
	}
}

// P12.2: Get, Steps; P12.3 (found).

func TestEachFrameIsFound(t *testing.T) {
	d := dice(7)
	for every := 1; every <= 64; every++ {
		for _, count := range counts(every) {
			payloads := d.payloads(count, 50)
			first := numbers[d.below(11)]
			s, _ := segment(first, payloads)
			x := built(t, s, every)
			for i, p := range payloads {
				seq := first + int64(i)
				if got, e := x.Get(s, seq); got != p || e != api.OK {
					t.Errorf("by %d: Get of %d: %q, %d, not %q", every, seq, got, e, p)
				}
				if n := x.Steps(seq); n != i%every+1 || n > every {
					t.Errorf("by %d: Steps of %d, from %d on: %d", every, seq, first, n)
				}
			}
		}
	}
}

func TestPayloadsOfTheGreatestLength(t *testing.T) {
	d := dice(8)
	payloads := []string{d.text(maxPayload), d.text(1), d.text(maxPayload), d.text(maxPayload - 1), d.text(maxPayload)}
	s, _ := segment(9, payloads)
	for _, every := range everies {
		x, _ := checked(t, "great ones", s, every)
		for i, p := range payloads {
			if got, e := x.Get(s, 9+int64(i)); got != p || e != api.OK {
				t.Errorf("by %d: %d: %d bytes, %d", every, i, len(got), e)
			}
		}
	}
}

// The errors' table, row of Get: ErrNone.

func TestFramesThatAreNotInTheIndex(t *testing.T) {
	for _, first := range numbers {
		count := min(5, maxSeq-first)
		payloads := row(int(count), 4)
		s, _ := segment(first, payloads)
		// What stands behind is not in the index, though it would be found there.
		longer := s
		if first+count < maxSeq {
			longer += spelt(first+count, "more")
		}
		for _, every := range everies {
			x := built(t, s, every)
			for _, seq := range []int64{first - 1, first - 2, first - int64(every), first + count, first + count + 1, first + count + 64, -1, maxSeq, maxSeq + 1, math.MinInt64, math.MinInt64 + first, math.MaxInt64, 1<<32 + first} {
				if seq >= first && seq < first+count {
					continue
				}
				for _, bytes := range []string{s, longer, "", "x", s[:16]} {
					if p, e := x.Get(bytes, seq); p != "" || e != api.ErrNone {
						t.Errorf("from %d: Get of %d: %q, %d", first, seq, p, e)
					}
				}
				if n := x.Steps(seq); n != 0 {
					t.Errorf("from %d: Steps of %d: %d", first, seq, n)
				}
			}
		}
	}
}

// The errors' table, row of Get: what frame.Read answers, ErrForm; P12.6 (other
// bytes).

func TestBytesThatEnd(t *testing.T) {
	d := dice(9)
	payloads := d.payloads(9, 20)
	s, ends := segment(5, payloads)
	for _, every := range []int{1, 2, 4, 64} {
		x, want := built(t, s, every), slowBuild(s, every)
		for n := range len(s) + 1 {
			for i, p := range payloads {
				got, e := x.Get(s[:n], 5+int64(i))
				if n < ends[i+1] && (got != "" || e != api.ErrShort) || n >= ends[i+1] && (got != p || e != api.OK) {
					t.Errorf("by %d: Get(%d bytes, %d): %q, %d", every, n, 5+i, got, e)
				}
			}
			gets(t, "cut short", x, want, s[:n])
		}
	}
}

func TestSteppedOverFramesAreRead(t *testing.T) {
	payloads := []string{"ab", "c", "def", "g"}
	s, ends := segment(5, payloads)
	for _, c := range []struct {
		what string
		s    string
		want [4]api.Errno
	}{
		{"the first one's payload", turned(s, 32, 0), [4]api.Errno{api.ErrSum, api.ErrSum, api.OK, api.OK}},
		{"the second one's payload", turned(s, ends[1]+16, 3), [4]api.Errno{api.OK, api.ErrSum, api.OK, api.OK}},
		{"the first one's number, a great one", turned(s, 20, 7), [4]api.Errno{api.ErrForm, api.ErrForm, api.OK, api.OK}},
		{"the first one's length", turned(s, 16, 7), [4]api.Errno{api.ErrForm, api.ErrForm, api.OK, api.OK}},
		{"the third one's checksum", turned(s, ends[2]+12, 3), [4]api.Errno{api.OK, api.OK, api.ErrSum, api.ErrSum}},
		{"the fourth one's checksum", turned(s, ends[3]+15, 3), [4]api.Errno{api.OK, api.OK, api.OK, api.ErrSum}},
		{"another first one", s[:16] + spelt(4, "ab") + s[ends[1]:], [4]api.Errno{api.ErrForm, api.ErrForm, api.OK, api.OK}},
		{"another second one", s[:ends[1]] + spelt(5, "c") + s[ends[2]:], [4]api.Errno{api.OK, api.ErrForm, api.OK, api.OK}},
		{"the other two", s[:16] + s[ends[2]:], [4]api.Errno{api.ErrForm, api.ErrForm, api.ErrShort, api.ErrShort}},
		{"just as long, from 6 on", head(6) + spelt(6, "ab") + spelt(7, "c") + spelt(8, "def") + spelt(9, "g"), [4]api.Errno{api.ErrForm, api.ErrForm, api.ErrForm, api.ErrForm}},
		{"zeros", strings.Repeat("\x00", len(s)), [4]api.Errno{api.ErrForm, api.ErrForm, api.ErrForm, api.ErrForm}},
		{"nothing", "", [4]api.Errno{api.ErrShort, api.ErrShort, api.ErrShort, api.ErrShort}},
		{"a byte", "s", [4]api.Errno{api.ErrShort, api.ErrShort, api.ErrShort, api.ErrShort}},
		{"another header", strings.Repeat("?", 16) + s[16:], [4]api.Errno{}},
	} {
		x, want := built(t, s, 2), slowBuild(s, 2)
		for i, e := range c.want {
			p := payloads[i]
			if e != api.OK {
				p = ""
			}
			if got, err := x.Get(c.s, 5+int64(i)); got != p || err != e {
				t.Errorf("%s: Get of %d: %q, %d, not %d", c.what, 5+i, got, err, e)
			}
		}
		gets(t, c.what, x, want, c.s)
	}
}

func TestOtherPayloads(t *testing.T) {
	s, _ := segment(5, []string{"ab", "c", "def", "g"})
	x := built(t, s, 4)
	// Of other lengths too, as long as the frames go on from the mark.
	other, _ := segment(5, []string{"a longer one", "?", "x", "and another one"})
	for i, p := range []string{"a longer one", "?", "x", "and another one"} {
		if got, e := x.Get(other, 5+int64(i)); got != p || e != api.OK {
			t.Errorf("Get of %d: %q, %d", 5+i, got, e)
		}
	}
	x = built(t, s, 1)
	for i, e := range []api.Errno{api.OK, api.ErrForm, api.ErrForm, api.ErrForm} {
		if _, err := x.Get(other, 5+int64(i)); err != e && (i == 0 || err == api.OK) {
			t.Errorf("Get of %d: %d", 5+i, err)
		}
	}
}

func TestASingleBitTurned(t *testing.T) {
	d := dice(10)
	payloads := d.payloads(5, 12)
	s, ends := segment(5, payloads)
	for _, every := range []int{1, 2, 64} {
		x, want := built(t, s, every), slowBuild(s, every)
		for at := range len(s) {
			for bit := range 8 {
				bytes := turned(s, at, bit)
				for i := range payloads {
					seq := 5 + int64(i)
					begin := want.mark(seq).At
					got, e := x.Get(bytes, seq)
					if at < begin || at >= ends[i+1] {
						if got != payloads[i] || e != api.OK {
							t.Errorf("by %d, bit %d of %d: Get of %d: %q, %d", every, bit, at, seq, got, e)
						}
						continue
					}
					if payload, err := want.get(bytes, seq); e == api.OK || got != "" || payload != "" || e != err {
						t.Errorf("by %d, bit %d of %d: Get of %d: %q, %d, not %d", every, bit, at, seq, got, e, err)
					}
				}
			}
		}
	}
}

func TestGetOfWhateverBytes(t *testing.T) {
	d := dice(11)
	for range 2000 {
		every := 1 + d.below(5)
		first := int64(d.below(4))
		s, _ := segment(first, d.payloads(d.below(9), 6))
		x, want := built(t, s, every), slowBuild(s, every)
		var other strings.Builder
		other.WriteString(d.text(16 - d.below(2)))
		for i := range d.below(9) {
			switch d.below(8) {
			case 0:
				other.WriteString(d.text(d.below(20)))
			case 1:
				other.WriteString(spelt(int64(d.below(8)), d.text(1+d.below(6))))
			default:
				other.WriteString(spelt(first+int64(i), d.text(1+d.below(6))))
			}
		}
		bytes := other.String()
		gets(t, "whatever bytes", x, want, bytes)
		for seq := int64(-1); seq < 14; seq++ {
			p, e := x.Get(bytes, seq)
			if (e == api.OK) != (p != "") || e == api.OK && !strings.Contains(bytes, spelt(seq, p)) {
				t.Errorf("Get(% X, %d): %q, %d", bytes, seq, p, e)
			}
		}
	}
}

// The errors' table: ErrNil, and what there is of nil.

func TestNoIndex(t *testing.T) {
	var x *index.Index
	s, _ := segment(0, []string{"ab"})
	for _, n := range append([]int{1, 2, maxPayload}, noLengths...) {
		if at, e := x.Add(n); at != 0 || e != api.ErrNil {
			t.Errorf("Add(%d): %d, %d", n, at, e)
		}
	}
	for _, seq := range []int64{0, 1, -1, maxSeq, math.MinInt64, math.MaxInt64} {
		for _, bytes := range []string{s, "", "x"} {
			if p, e := x.Get(bytes, seq); p != "" || e != api.ErrNil {
				t.Errorf("Get of %d: %q, %d", seq, p, e)
			}
		}
		if n := x.Steps(seq); n != 0 {
			t.Errorf("Steps of %d: %d", seq, n)
		}
	}
	if len(x.Marks()) != 0 || x.First() != 0 || x.Next() != 0 || x.Good() != 0 || x.Copy() != nil {
		t.Errorf("%s, %v", told(x), x.Copy())
	}
}

// P12.2: Copy.

func TestACopyTellsTheSame(t *testing.T) {
	d := dice(12)
	for _, every := range everies {
		for _, count := range counts(every) {
			s, _ := segment(5, d.payloads(count, 20))
			x, want := built(t, s, every), slowBuild(s, every)
			y := x.Copy()
			if y == x {
				t.Error("the copy is the index")
			}
			same(t, "copied", y, want)
			gets(t, "copied", y, want, s)
			same(t, "was copied", x, want)
		}
	}
}

func TestACopyGoesItsOwnWay(t *testing.T) {
	d := dice(13)
	for _, every := range []int{1, 2, 3, 64} {
		// Lists of all lengths: with room behind them, and without it.
		for count := range 40 {
			s, _ := segment(5, d.payloads(count, 20))
			all := []*index.Index{built(t, s, every)}
			all = append(all, all[0].Copy(), all[0].Copy())
			all = append(all, all[2].Copy())
			var slows []*slow
			var bytes []string
			for range all {
				slows = append(slows, slowBuild(s, every))
				bytes = append(bytes, s)
			}
			for range 30 {
				i := d.below(len(all))
				p := d.text(1 + d.below(30))
				bytes[i] += spelt(slows[i].next(), p)
				at, e := all[i].Add(len(p))
				if want := slows[i].add(len(p)); at != want || e != api.OK {
					t.Errorf("Add to %d: %d, %d, not %d", i, at, e, want)
				}
			}
			for i, x := range all {
				same(t, fmt.Sprint("copy ", i), x, slows[i])
				gets(t, fmt.Sprint("copy ", i), x, slows[i], bytes[i])
			}
		}
	}
}

func TestACopyOfAnIndexThatGoesOn(t *testing.T) {
	x := built(t, head(5), 1)
	want := slowBuild(head(5), 1)
	for i := range 50 {
		y := x.Copy()
		x.Add(i + 1)
		y.Add(100)
		want.add(i + 1)
		same(t, "copied as it goes on", x, want)
		if y.Next() != x.Next() || y.Good() != x.Good()-(i+1)+100 {
			t.Errorf("%s, %s", told(x), told(y))
		}
	}
}

// R1.

func TestMarksMayBeWrittenOver(t *testing.T) {
	s, _ := segment(5, row(20, 3))
	for _, every := range []int{1, 2, 3} {
		x, want := built(t, s, every), slowBuild(s, every)
		y := x.Copy()
		for range 3 {
			l := x.Marks()
			for i := range l {
				l[i] = index.Mark{Seq: -1, At: -1}
			}
			_ = append(l[:len(l)-1], index.Mark{Seq: 1}, index.Mark{Seq: 2})
			// And behind the list too, if there is room.
			l = l[:cap(l)]
			clear(l)
			same(t, "written over", x, want)
			gets(t, "written over", x, want, s)
			same(t, "written over, the copy", y, want)
			x.Add(3)
			y.Add(3)
			want.add(3)
			s += spelt(want.next()-1, "xyz")
		}
	}
}

func TestMarksStayAsTheIndexGoesOn(t *testing.T) {
	x := built(t, head(5), 1)
	for i := range 40 {
		l := x.Marks()
		was := slices.Clone(l)
		_ = append(l, index.Mark{Seq: 99, At: 99})
		x.Add(1)
		if !slices.Equal(l, was) {
			t.Errorf("%d frames: %v, not %v", i, l, was)
		}
		if m := x.Marks(); len(m) != i+1 || m[i] != (index.Mark{Seq: 5 + int64(i), At: 16 + 17*i}) {
			t.Errorf("%d frames: %v", i+1, m)
		}
	}
}

func TestAnswersAreTheSameAgain(t *testing.T) {
	s, _ := segment(5, []string{"ab", "c", "def", "g", "hi"})
	x := built(t, s, 2)
	was := told(x)
	for range 3 {
		for _, bytes := range []string{s, s[:40], "", turned(s, 33, 1)} {
			want := slowBuild(s, 2)
			gets(t, "again", x, want, bytes)
			same(t, "again", x, want)
		}
	}
	if told(x) != was {
		t.Errorf("%s, not %s", told(x), was)
	}
}

func TestAnIndexThatNothingBuilt(t *testing.T) {
	var x index.Index
	if told(&x) != "0 0 0 []" || x.Steps(0) != 0 || x.Copy() == nil {
		t.Error(told(&x))
	}
	if p, e := x.Get("", 0); p != "" || e != api.ErrNone {
		t.Errorf("Get: %q, %d", p, e)
	}
	for _, n := range noLengths {
		if at, e := x.Add(n); at != 0 || e != api.ErrForm {
			t.Errorf("Add(%d): %d, %d", n, at, e)
		}
	}
	for range 5 {
		x.Add(1)
		x.Copy().Add(1)
		x.Get("", x.Next()-1)
		x.Steps(x.Next() - 1)
	}
	if x.Next() != 5 || x.Good() != 5*17 {
		t.Error(told(&x))
	}
}
