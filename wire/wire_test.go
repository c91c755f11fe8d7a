package wire_test

import (
	"fmt"
	"math"
	"math/big"
	"strings"
	"testing"

	"souk/api"
	"souk/wire"
)

// dice tells numbers that look like any, the same ones in each run.
type dice uint64

func (d *dice) next() uint64 {
	*d ^= *d << 13
	*d ^= *d >> 7
	*d ^= *d << 17
	return uint64(*d) * 0x2545F4914F6CDD1D
}

func (d *dice) below(n int) int { return int(d.next() % uint64(n)) }

// number tells one of any length of bits: small ones as often as great ones.
func (d *dice) number() uint64 { return d.next() >> d.below(64) }

func (d *dice) text(n int) string {
	b := make([]byte, n)
	for i := range b {
		b[i] = byte(d.next() >> 32)
	}
	return string(b)
}

// bytes tells some that short numbers are often made of.
func (d *dice) bytes(n int) string {
	b := []byte(d.text(n))
	for i := range b {
		switch d.below(8) {
		case 0:
			b[i] = 0
		case 1:
			b[i] = 1
		case 2:
			b[i] = 0x80
		case 3, 4:
			b[i] = 0xFF
		case 5:
			b[i] %= 12
		}
	}
	return string(b)
}

// slowShort is a short number's bytes by the words of the document.
func slowShort(n uint64) string {
	left, base := new(big.Int).SetUint64(n), big.NewInt(128)
	var b []byte
	for {
		var low big.Int
		left.DivMod(left, base, &low)
		b = append(b, byte(low.Uint64()))
		if left.Sign() == 0 {
			return string(b)
		}
		b[len(b)-1] += 0x80
	}
}

// edges are numbers where something begins or ends.
func edges() []uint64 {
	l := []uint64{0, 1, 2, 100, 127, 128, 129, 255, 256, 258, 300, math.MaxUint64, math.MaxUint64 - 1}
	for bit := range 64 {
		n := uint64(1) << bit
		l = append(l, n-1, n, n+1)
	}
	return l
}

// texts are some of each kind: none, short, long, of bytes that are no UTF-8.
func texts() []string {
	return []string{"", "a", "ab", "\x00", "\x80", "\xff\xfe", "\xc3\x28 é", strings.Repeat("x", 127), strings.Repeat("y", 128), strings.Repeat("souk ", 5000)}
}

// written tells what a Writer has of what is done to it.
func written(do func(w *wire.Writer)) string {
	var w wire.Writer
	do(&w)
	return w.Bytes()
}

// at tells what is wrong with a Reader that should be there, with that error.
func at(r *wire.Reader, s string, place int, e api.Errno) string {
	if r.At() != place || r.Left() != len(s)-place {
		return fmt.Sprintf("%d taken, %d left, not %d of %d", r.At(), r.Left(), place, len(s))
	}
	told := 0
	if e != api.OK {
		told = place
	}
	if got, p := r.Err(); got != e || p != told {
		return fmt.Sprintf("%v at %d, not %v at %d", got, p, e, told)
	}
	end := e
	if e == api.OK && place < len(s) {
		end = api.ErrForm
	}
	if got := r.End(); got != end {
		return fmt.Sprintf("End is %v, not %v", got, end)
	}
	return ""
}

// P2.1: what a Writer writes.

func TestFixedNumbersStandHighestByteFirst(t *testing.T) {
	for _, c := range []struct {
		name string
		do   func(w *wire.Writer)
		want string
	}{
		{"U8 0", func(w *wire.Writer) { w.U8(0) }, "\x00"},
		{"U8 7", func(w *wire.Writer) { w.U8(7) }, "\x07"},
		{"U8 greatest", func(w *wire.Writer) { w.U8(math.MaxUint8) }, "\xff"},
		{"U16 0", func(w *wire.Writer) { w.U16(0) }, "\x00\x00"},
		{"U16 258", func(w *wire.Writer) { w.U16(258) }, "\x01\x02"},
		{"U16 greatest", func(w *wire.Writer) { w.U16(math.MaxUint16) }, "\xff\xff"},
		{"U32 1", func(w *wire.Writer) { w.U32(1) }, "\x00\x00\x00\x01"},
		{"U32 01020304", func(w *wire.Writer) { w.U32(0x01020304) }, "\x01\x02\x03\x04"},
		{"U32 greatest less 1", func(w *wire.Writer) { w.U32(math.MaxUint32 - 1) }, "\xff\xff\xff\xfe"},
		{"U64 1", func(w *wire.Writer) { w.U64(1) }, "\x00\x00\x00\x00\x00\x00\x00\x01"},
		{"U64 0102030405060708", func(w *wire.Writer) { w.U64(0x0102030405060708) }, "\x01\x02\x03\x04\x05\x06\x07\x08"},
		{"U64 greatest less 1", func(w *wire.Writer) { w.U64(math.MaxUint64 - 1) }, "\xff\xff\xff\xff\xff\xff\xff\xfe"},
		{"Low 258", func(w *wire.Writer) { w.Low(258) }, "\x02\x01\x00\x00"},
		{"Low 01020304", func(w *wire.Writer) { w.Low(0x01020304) }, "\x04\x03\x02\x01"},
		{"Low greatest less 1", func(w *wire.Writer) { w.Low(math.MaxUint32 - 1) }, "\xfe\xff\xff\xff"},
	} {
		if got := written(c.do); got != c.want {
			t.Errorf("%s: % X, not % X", c.name, got, c.want)
		}
	}
}

func TestShortIsGroupsOfSevenBits(t *testing.T) {
	for n, want := range map[uint64]string{
		0: "\x00", 127: "\x7f", 128: "\x80\x01", 300: "\xac\x02", 16383: "\xff\x7f", 16384: "\x80\x80\x01",
		math.MaxUint64: "\xff\xff\xff\xff\xff\xff\xff\xff\xff\x01", 1 << 63: "\x80\x80\x80\x80\x80\x80\x80\x80\x80\x01",
	} {
		if got := written(func(w *wire.Writer) { w.Short(n) }); got != want {
			t.Errorf("%d: % X, not % X", n, got, want)
		}
	}
	for _, n := range edges() {
		if got, want := written(func(w *wire.Writer) { w.Short(n) }), slowShort(n); got != want {
			t.Errorf("%d: % X, not % X", n, got, want)
		}
	}
}

func TestTextIsItsLengthAndItsBytes(t *testing.T) {
	if got := written(func(w *wire.Writer) { w.Text("ab") }); got != "\x02ab" {
		t.Errorf("ab: % X", got)
	}
	for _, s := range texts() {
		if got, want := written(func(w *wire.Writer) { w.Text(s) }), slowShort(uint64(len(s)))+s; got != want {
			t.Errorf("%d bytes: %d bytes", len(s), len(got))
		}
	}
}

func TestRawIsBytesAsTheyAre(t *testing.T) {
	for _, s := range texts() {
		if got := written(func(w *wire.Writer) { w.Raw(s) }); got != s {
			t.Errorf("%d bytes: %d bytes", len(s), len(got))
		}
	}
}

func TestWhatIsWrittenStandsBehindWhatWas(t *testing.T) {
	w := &wire.Writer{}
	want := ""
	for _, c := range []struct {
		do   func()
		more string
	}{
		{func() {}, ""},
		{func() { w.U8(1) }, "\x01"},
		{func() { w.Raw("") }, ""},
		{func() { w.U16(2) }, "\x00\x02"},
		{func() { w.Text("three") }, "\x05three"},
		{func() { w.U32(4) }, "\x00\x00\x00\x04"},
		{func() { w.Low(5) }, "\x05\x00\x00\x00"},
		{func() { w.U64(6) }, "\x00\x00\x00\x00\x00\x00\x00\x06"},
		{func() { w.Short(700) }, "\xbc\x05"},
		{func() { w.Text("") }, "\x00"},
		{func() { w.Raw("eight") }, "eight"},
	} {
		c.do()
		want += c.more
		if w.Len() != len(want) || w.Bytes() != want || w.Bytes() != want {
			t.Errorf("%d bytes, % X, not % X", w.Len(), w.Bytes(), want)
		}
	}
}

func TestWriterThatNobodyMade(t *testing.T) {
	var w wire.Writer
	if w.Len() != 0 || w.Bytes() != "" {
		t.Errorf("ahead: %d, %q", w.Len(), w.Bytes())
	}
	w.Raw("")
	if w.Len() != 0 || w.Bytes() != "" {
		t.Errorf("with nothing: %d, %q", w.Len(), w.Bytes())
	}
	w.U8(9)
	if w.Len() != 1 || w.Bytes() != "\x09" {
		t.Errorf("behind: %d, %q", w.Len(), w.Bytes())
	}
}

func TestWriterOfNilHasNothing(t *testing.T) {
	var w *wire.Writer
	w.U8(1)
	w.U16(1)
	w.U32(1)
	w.U64(1)
	w.Low(1)
	w.Short(1 << 40)
	w.Text("a")
	w.Raw("a")
	if w.Len() != 0 || w.Bytes() != "" {
		t.Errorf("%d, %q", w.Len(), w.Bytes())
	}
}

func TestWhatWasToldStays(t *testing.T) {
	var w wire.Writer
	var told []string
	for n := range 100 {
		told = append(told, w.Bytes())
		w.U8(uint8(n))
	}
	for n, s := range told {
		if s != w.Bytes()[:n] {
			t.Errorf("after %d: % X", n, s)
		}
	}
}

// A copy of a Writer is a Writer of its own, wherever it was made and whichever goes on first.
func TestCopiesOfAWriterGoOnApart(t *testing.T) {
	for n := range 40 {
		ahead := strings.Repeat("a", n)
		var w wire.Writer
		for range n {
			w.Raw("a")
		}
		x, y := w, w
		x.Raw("x")
		y.Raw("yy")
		w.Raw("www")
		x.Raw("xx")
		z := x
		x.Raw("x")
		z.U8('z')
		for _, c := range []struct {
			w    *wire.Writer
			want string
		}{{&w, "www"}, {&x, "xxxx"}, {&y, "yy"}, {&z, "xxxz"}} {
			if c.w.Bytes() != ahead+c.want || c.w.Len() != n+len(c.want) {
				t.Errorf("%d ahead: %q, not %q behind", n, c.w.Bytes(), c.want)
			}
		}
	}
}

// P2.1, P2.6: Size.

func TestSizeIsHowManyBytesAShortNumberHas(t *testing.T) {
	for n, want := range map[uint64]int{0: 1, 1: 1, 127: 1, 128: 2, 300: 2, 16383: 2, 16384: 3, 1<<63 - 1: 9, 1 << 63: 10, math.MaxUint64: 10} {
		if got := wire.Size(n); got != want {
			t.Errorf("%d: %d, not %d", n, got, want)
		}
	}
	d := dice(1)
	for range 2000 {
		n := d.number()
		if got, want := wire.Size(n), len(slowShort(n)); got != want {
			t.Errorf("%d: %d, not %d", n, got, want)
		}
	}
}

func TestSizeRises(t *testing.T) {
	for bit := range 64 {
		below, from := uint64(1)<<bit-1, uint64(1)<<bit
		if wire.Size(below) > wire.Size(from) || wire.Size(below) < 1 || wire.Size(from) > 10 {
			t.Errorf("%d: %d, %d: %d", below, wire.Size(below), from, wire.Size(from))
		}
		if (wire.Size(below) < wire.Size(from)) != (bit > 0 && bit%7 == 0) {
			t.Errorf("%d bits: %d, %d", bit, wire.Size(below), wire.Size(from))
		}
	}
	d := dice(2)
	for range 5000 {
		a, b := d.number(), d.number()
		if wire.Size(min(a, b)) > wire.Size(max(a, b)) {
			t.Errorf("%d has %d, %d has %d", a, wire.Size(a), b, wire.Size(b))
		}
	}
}

func TestShortNumbersAreUnlikeAndNoneBeginsByAnother(t *testing.T) {
	l := edges()
	d := dice(3)
	for range 300 {
		l = append(l, d.number())
	}
	said := make([]string, len(l))
	for i, n := range l {
		said[i] = written(func(w *wire.Writer) { w.Short(n) })
		if len(said[i]) != wire.Size(n) || len(said[i]) < 1 || len(said[i]) > 10 {
			t.Errorf("%d: %d bytes, Size %d", n, len(said[i]), wire.Size(n))
		}
	}
	for i, a := range said {
		for j, b := range said {
			if l[i] != l[j] && strings.HasPrefix(a, b) {
				t.Errorf("%d: % X, %d: % X", l[i], a, l[j], b)
			}
		}
	}
}

// P2.2: what a Reader reads.

func TestReaderTakesFromTheFront(t *testing.T) {
	s := "\x07\x01\x02\x80\x00\x00\x01\x80\x00\x00\x00\x00\x00\x00\x02\x02\x01\x00\x00\xac\x02\x02abcd"
	r := wire.New(s)
	place := 0
	for _, c := range []struct {
		name string
		is   func() bool
		size int
	}{
		{"nothing", func() bool { return true }, 0},
		{"U8", func() bool { return r.U8() == 7 }, 1},
		{"U16", func() bool { return r.U16() == 258 }, 2},
		{"U32", func() bool { return r.U32() == 1<<31+1 }, 4},
		{"U64", func() bool { return r.U64() == 1<<63+2 }, 8},
		{"Low", func() bool { return r.Low() == 258 }, 4},
		{"Short", func() bool { return r.Short(300) == 300 }, 2},
		{"Text", func() bool { return r.Text(2) == "ab" }, 3},
		{"Raw of nothing", func() bool { return r.Raw(0) == "" }, 0},
		{"Raw", func() bool { return r.Raw(2) == "cd" }, 2},
	} {
		if !c.is() {
			t.Errorf("%s is another one", c.name)
		}
		place += c.size
		if wrong := at(r, s, place, api.OK); wrong != "" {
			t.Errorf("%s: %s", c.name, wrong)
		}
	}
	if r.End() != api.OK || r.Left() != 0 {
		t.Errorf("%v, %d left", r.End(), r.Left())
	}
}

func TestFixedNumbersAtTheirEnds(t *testing.T) {
	ones := strings.Repeat("\xff", 19)
	r := wire.New(ones)
	if r.U8() != math.MaxUint8 || r.U16() != math.MaxUint16 || r.U32() != math.MaxUint32 || r.U64() != math.MaxUint64 || r.Low() != math.MaxUint32 || r.End() != api.OK {
		t.Error("the greatest ones are others")
	}
	r = wire.New(strings.Repeat("\x00", 19))
	if r.U8() != 0 || r.U16() != 0 || r.U32() != 0 || r.U64() != 0 || r.Low() != 0 || r.End() != api.OK {
		t.Error("the least ones are others")
	}
	r = wire.New("\x01\x02\x03\x04\x05\x06\x07\x08")
	if n := r.U64(); n != 0x0102030405060708 {
		t.Errorf("U64: %X", n)
	}
	r = wire.New("\x01\x02\x03\x04\x01\x02\x03\x04")
	if high, low := r.U32(), r.Low(); high != 0x01020304 || low != 0x04030201 {
		t.Errorf("U32: %X, Low: %X", high, low)
	}
}

func TestEndIsWhetherAllIsTaken(t *testing.T) {
	if e := wire.New("").End(); e != api.OK {
		t.Errorf("of nothing: %v", e)
	}
	r := wire.New("ab")
	for _, want := range []api.Errno{api.ErrForm, api.ErrForm} {
		if e := r.End(); e != want {
			t.Errorf("ahead: %v", e)
		}
	}
	r.U8()
	if wrong := at(r, "ab", 1, api.OK); wrong != "" {
		t.Error(wrong)
	}
	// It only asks: what is left may still be read.
	if n := r.U8(); n != 'b' || r.End() != api.OK {
		t.Errorf("%d, %v", n, r.End())
	}
	r.U8()
	if e := r.End(); e != api.ErrShort {
		t.Errorf("behind an error: %v", e)
	}
	r = wire.New("ab")
	r.U32()
	if e := r.End(); e != api.ErrShort {
		t.Errorf("behind an error, with bytes left: %v", e)
	}
}

func TestReaderOfNothing(t *testing.T) {
	for name, r := range map[string]*wire.Reader{"made": wire.New(""), "that nobody made": {}} {
		if wrong := at(r, "", 0, api.OK); wrong != "" {
			t.Errorf("%s: %s", name, wrong)
		}
		if s := r.Raw(0); s != "" {
			t.Errorf("%s: %q", name, s)
		}
		if n := r.U8(); n != 0 {
			t.Errorf("%s: %d", name, n)
		}
		if wrong := at(r, "", 0, api.ErrShort); wrong != "" {
			t.Errorf("%s: %s", name, wrong)
		}
	}
}

// asked tells what is not nothing of all that a Reader may be asked for.
func asked(r *wire.Reader) string {
	for name, nothing := range map[string]bool{
		"U8": r.U8() == 0, "U16": r.U16() == 0, "U32": r.U32() == 0, "U64": r.U64() == 0, "Low": r.Low() == 0,
		"Short": r.Short(math.MaxUint64) == 0, "Short of 0": r.Short(0) == 0,
		"Text": r.Text(math.MaxInt) == "", "Text of 0": r.Text(0) == "", "Text below 0": r.Text(-1) == "",
		"Raw": r.Raw(1) == "", "Raw of 0": r.Raw(0) == "", "Raw below 0": r.Raw(-1) == "", "Raw of too much": r.Raw(math.MaxInt) == "",
	} {
		if !nothing {
			return name
		}
	}
	return ""
}

func TestReaderOfNil(t *testing.T) {
	var r *wire.Reader
	for range 2 {
		if e, place := r.Err(); e != api.ErrNil || place != 0 {
			t.Errorf("%v at %d", e, place)
		}
		if r.End() != api.ErrNil || r.Left() != 0 || r.At() != 0 {
			t.Errorf("%v, %d left, %d taken", r.End(), r.Left(), r.At())
		}
		if name := asked(r); name != "" {
			t.Errorf("%s is something", name)
		}
	}
}

// P2.2, and the errors' table.

// fixedOnes are the fixed numbers, and Raw, by how many bytes they take.
var fixedOnes = []struct {
	name string
	size int
	read func(r *wire.Reader) uint64
}{
	{"U8", 1, func(r *wire.Reader) uint64 { return uint64(r.U8()) }},
	{"U16", 2, func(r *wire.Reader) uint64 { return uint64(r.U16()) }},
	{"U32", 4, func(r *wire.Reader) uint64 { return uint64(r.U32()) }},
	{"U64", 8, func(r *wire.Reader) uint64 { return r.U64() }},
	{"Low", 4, func(r *wire.Reader) uint64 { return uint64(r.Low()) }},
	{"Raw", 5, func(r *wire.Reader) uint64 { return uint64(len(r.Raw(5))) }},
}

func TestFixedOnesAreShortWithoutTheirBytes(t *testing.T) {
	for _, c := range fixedOnes {
		for ahead := range 3 {
			for left := range c.size {
				s := strings.Repeat("\x11", ahead+left)
				r := wire.New(s)
				r.Raw(ahead)
				if n := c.read(r); n != 0 {
					t.Errorf("%s of %d bytes: %d", c.name, left, n)
				}
				if wrong := at(r, s, ahead, api.ErrShort); wrong != "" {
					t.Errorf("%s of %d bytes: %s", c.name, left, wrong)
				}
			}
		}
		s := strings.Repeat("\x11", c.size)
		r := wire.New(s)
		if n := c.read(r); n == 0 {
			t.Errorf("%s of just its bytes: 0", c.name)
		}
		if wrong := at(r, s, c.size, api.OK); wrong != "" {
			t.Errorf("%s of just its bytes: %s", c.name, wrong)
		}
	}
}

func TestShortIsRefused(t *testing.T) {
	nine := strings.Repeat("\xff", 9)
	zeros := strings.Repeat("\x80", 9)
	const all = math.MaxUint64
	for _, c := range []struct {
		s    string
		most uint64
		e    api.Errno
	}{
		{"", all, api.ErrShort},
		{"", 0, api.ErrShort},
		{"\x80", all, api.ErrShort},
		{"\x80", 0, api.ErrShort},
		{"\xff\xff", 5, api.ErrShort},
		{nine, all, api.ErrShort},
		{zeros, all, api.ErrShort},
		{"\x80\x00", all, api.ErrForm},
		{"\x80\x00", 0, api.ErrForm},
		{"\xff\x00", 5, api.ErrForm},
		{"\x80\x80\x00", all, api.ErrForm},
		{"\x80\x00\x01", all, api.ErrForm},
		{zeros[1:] + "\x00", all, api.ErrForm},
		{zeros + "\x00", all, api.ErrForm},
		{nine + "\x00", all, api.ErrForm},
		{nine + "\x02", all, api.ErrForm},
		{nine + "\x02", 1, api.ErrForm},
		{zeros + "\x02", all, api.ErrForm},
		{nine + "\x7f", all, api.ErrForm},
		{nine + "\x80", all, api.ErrForm},
		{nine + "\x81", all, api.ErrForm},
		{nine + "\x81\x01", all, api.ErrForm},
		{zeros + "\x80\x01", all, api.ErrForm},
		{nine + "\xff", 3, api.ErrForm},
		{"\x01", 0, api.ErrTooLarge},
		{"\x0b", 10, api.ErrTooLarge},
		{"\xac\x02", 299, api.ErrTooLarge},
		{"\xac\x02\x00", 127, api.ErrTooLarge},
		{nine + "\x01", all - 1, api.ErrTooLarge},
		{nine + "\x01", 0, api.ErrTooLarge},
		{zeros + "\x01", 1<<63 - 1, api.ErrTooLarge},
	} {
		for _, ahead := range []string{"", "\x80\x00\xff"} {
			r := wire.New(ahead + c.s)
			r.Raw(len(ahead))
			if n := r.Short(c.most); n != 0 {
				t.Errorf("% X: %d", c.s, n)
			}
			if wrong := at(r, ahead+c.s, len(ahead), c.e); wrong != "" {
				t.Errorf("% X behind %d: %s", c.s, len(ahead), wrong)
			}
		}
	}
}

func TestShortUpToMost(t *testing.T) {
	for _, n := range edges() {
		s := slowShort(n)
		for _, most := range []uint64{n, math.MaxUint64} {
			r := wire.New(s + "\x00")
			if got := r.Short(most); got != n {
				t.Errorf("%d up to %d: %d", n, most, got)
			}
			if wrong := at(r, s+"\x00", len(s), api.OK); wrong != "" {
				t.Errorf("%d up to %d: %s", n, most, wrong)
			}
		}
		if n == 0 {
			continue
		}
		r := wire.New(s)
		if got := r.Short(n - 1); got != 0 {
			t.Errorf("%d up to one less: %d", n, got)
		}
		if wrong := at(r, s, 0, api.ErrTooLarge); wrong != "" {
			t.Errorf("%d up to one less: %s", n, wrong)
		}
	}
}

func TestTextIsRefused(t *testing.T) {
	nine := strings.Repeat("\xff", 9)
	for _, c := range []struct {
		s    string
		most int
		e    api.Errno
	}{
		{"", 5, api.ErrShort},
		{"\x82", 5, api.ErrShort},
		{"\x02", 5, api.ErrShort},
		{"\x02a", 2, api.ErrShort},
		{"\x02a", math.MaxInt, api.ErrShort},
		{"\x80\x01" + strings.Repeat("x", 127), 128, api.ErrShort},
		{"\x82\x00ab", 5, api.ErrForm},
		{nine + "\x02", 5, api.ErrForm},
		{"\x02ab", 1, api.ErrTooLarge},
		{"\x02a", 1, api.ErrTooLarge},
		{"\x02ab", 0, api.ErrTooLarge},
		{"\x01a", -1, api.ErrTooLarge},
		{"\x01a", math.MinInt, api.ErrTooLarge},
		{nine + "\x01ab", math.MaxInt, api.ErrTooLarge},
		{slowShort(math.MaxInt) + "ab", math.MaxInt, api.ErrShort},
		{slowShort(math.MaxInt+1) + "ab", math.MaxInt, api.ErrTooLarge},
	} {
		for _, ahead := range []string{"", "\x01\x01\x01"} {
			r := wire.New(ahead + c.s)
			r.Raw(len(ahead))
			if s := r.Text(c.most); s != "" {
				t.Errorf("% X: %q", c.s, s)
			}
			if wrong := at(r, ahead+c.s, len(ahead), c.e); wrong != "" {
				t.Errorf("% X behind %d: %s", c.s, len(ahead), wrong)
			}
		}
	}
}

func TestTextUpToMost(t *testing.T) {
	for _, s := range texts() {
		said := slowShort(uint64(len(s))) + s
		for _, most := range []int{len(s), len(s) + 1, math.MaxInt} {
			r := wire.New(said + "more")
			if got := r.Text(most); got != s {
				t.Errorf("%d bytes up to %d: %d bytes", len(s), most, len(got))
			}
			if wrong := at(r, said+"more", len(said), api.OK); wrong != "" {
				t.Errorf("%d bytes up to %d: %s", len(s), most, wrong)
			}
		}
	}
	for _, most := range []int{0, -1, math.MinInt} {
		r := wire.New("\x00")
		if got := r.Text(most); got != "" || r.End() != api.OK || r.At() != 1 {
			t.Errorf("nothing up to %d: %q, %v", most, got, r.End())
		}
	}
}

func TestRawOfLessThanNothingIsOfNothing(t *testing.T) {
	for _, n := range []int{0, -1, -2, math.MinInt} {
		r := wire.New("ab")
		r.U8()
		if s := r.Raw(n); s != "" {
			t.Errorf("%d: %q", n, s)
		}
		if wrong := at(r, "ab", 1, api.OK); wrong != "" {
			t.Errorf("%d: %s", n, wrong)
		}
		if r.U8() != 'b' || r.Raw(n) != "" || r.End() != api.OK {
			t.Errorf("%d, at the end: %v", n, r.End())
		}
	}
	for _, n := range []int{3, math.MaxInt, math.MaxInt - 1} {
		r := wire.New("abc")
		r.U8()
		if s := r.Raw(n); s != "" {
			t.Errorf("%d: %q", n, s)
		}
		if wrong := at(r, "abc", 1, api.ErrShort); wrong != "" {
			t.Errorf("%d: %s", n, wrong)
		}
	}
}

// slowRead tells what comes next by the words of the table: what is wrong with it, how many
// bytes it has, and the number.
func slowRead(s string, most uint64) (e api.Errno, size int, n uint64) {
	var sum big.Int
	for i := 0; ; i++ {
		if i == len(s) {
			return api.ErrShort, 0, 0
		}
		last := s[i] < 0x80
		if i == 9 && s[i] > 1 || last && s[i] == 0 && i > 0 {
			return api.ErrForm, 0, 0
		}
		sum.Add(&sum, new(big.Int).Lsh(big.NewInt(int64(s[i]%0x80)), uint(7*i)))
		if !last {
			continue
		}
		if sum.Cmp(new(big.Int).SetUint64(most)) > 0 {
			return api.ErrTooLarge, 0, 0
		}
		return api.OK, i + 1, sum.Uint64()
	}
}

func TestShortAndTextOfWhateverBytes(t *testing.T) {
	d := dice(4)
	seen := map[api.Errno]int{}
	for range 40000 {
		s, most := d.bytes(d.below(14)), d.number()
		r := wire.New(s)
		got := r.Short(most)
		e, size, n := slowRead(s, most)
		seen[e]++
		if wrong := at(r, s, size, e); wrong != "" || got != n {
			t.Fatalf("Short of % X up to %d: %d, not %d; %s", s, most, got, n, wrong)
		}
		top := int(most>>1) % 20
		e, size, n = slowRead(s, uint64(top))
		if e == api.OK && n > uint64(len(s)-size) {
			e, size, n = api.ErrShort, 0, 0
		}
		r = wire.New(s)
		text := r.Text(top)
		if wrong := at(r, s, size+int(n), e); wrong != "" || text != s[size:size+int(n)] {
			t.Fatalf("Text of % X up to %d: %q; %s", s, top, text, wrong)
		}
	}
	for _, e := range []api.Errno{api.OK, api.ErrShort, api.ErrForm, api.ErrTooLarge} {
		if seen[e] < 100 {
			t.Errorf("%v was seen %d times", e, seen[e])
		}
	}
}

// item is something that is written, read, and held against what was written.
type item struct {
	name  string
	write func(w *wire.Writer)
	same  func(r *wire.Reader) bool
}

// anItem tells one of any kind.
func anItem(d *dice) item {
	n := d.number()
	s := d.text(d.below(6) * d.below(40))
	switch d.below(8) {
	case 0:
		return item{"U8", func(w *wire.Writer) { w.U8(uint8(n)) }, func(r *wire.Reader) bool { return r.U8() == uint8(n) }}
	case 1:
		return item{"U16", func(w *wire.Writer) { w.U16(uint16(n)) }, func(r *wire.Reader) bool { return r.U16() == uint16(n) }}
	case 2:
		return item{"U32", func(w *wire.Writer) { w.U32(uint32(n)) }, func(r *wire.Reader) bool { return r.U32() == uint32(n) }}
	case 3:
		return item{"U64", func(w *wire.Writer) { w.U64(n) }, func(r *wire.Reader) bool { return r.U64() == n }}
	case 4:
		return item{"Low", func(w *wire.Writer) { w.Low(uint32(n)) }, func(r *wire.Reader) bool { return r.Low() == uint32(n) }}
	case 5:
		return item{"Short", func(w *wire.Writer) { w.Short(n) }, func(r *wire.Reader) bool { return r.Short(n) == n }}
	case 6:
		return item{"Text", func(w *wire.Writer) { w.Text(s) }, func(r *wire.Reader) bool { return r.Text(len(s)) == s }}
	}
	return item{"Raw", func(w *wire.Writer) { w.Raw(s) }, func(r *wire.Reader) bool { return r.Raw(len(s)) == s }}
}

// P2.3: back.

func TestWhatIsWrittenIsReadAsItIs(t *testing.T) {
	d := dice(5)
	for range 2000 {
		var w wire.Writer
		var l []item
		ends := []int{}
		for range d.below(12) {
			one := anItem(&d)
			one.write(&w)
			l = append(l, one)
			ends = append(ends, w.Len())
		}
		r := wire.New(w.Bytes())
		for i, one := range l {
			if !one.same(r) {
				t.Fatalf("%s, the one at %d, is read as another one", one.name, i)
			}
			if wrong := at(r, w.Bytes(), ends[i], api.OK); wrong != "" {
				t.Fatalf("%s, the one at %d: %s", one.name, i, wrong)
			}
		}
		if r.End() != api.OK || r.Left() != 0 {
			t.Fatalf("%v, %d left", r.End(), r.Left())
		}
	}
}

// P2.4: just one.

// again reads something of whatever kind, and tells whether it was there, and how it is written.
func again(d *dice, r *wire.Reader) (bool, func(w *wire.Writer)) {
	var do func(w *wire.Writer)
	switch d.below(8) {
	case 0:
		n := r.U8()
		do = func(w *wire.Writer) { w.U8(n) }
	case 1:
		n := r.U16()
		do = func(w *wire.Writer) { w.U16(n) }
	case 2:
		n := r.U32()
		do = func(w *wire.Writer) { w.U32(n) }
	case 3:
		n := r.U64()
		do = func(w *wire.Writer) { w.U64(n) }
	case 4:
		n := r.Low()
		do = func(w *wire.Writer) { w.Low(n) }
	case 5:
		n := r.Short(d.number() | d.number())
		do = func(w *wire.Writer) { w.Short(n) }
	case 6:
		s := r.Text(d.below(60))
		do = func(w *wire.Writer) { w.Text(s) }
	default:
		s := r.Raw(d.below(20) - 3)
		do = func(w *wire.Writer) { w.Raw(s) }
	}
	e, _ := r.Err()
	return e == api.OK, do
}

func TestWhatIsReadWrittenAgainIsWhatWasTaken(t *testing.T) {
	d := dice(6)
	for range 20000 {
		s := d.bytes(d.below(80))
		r := wire.New(s)
		var w wire.Writer
		for range 30 {
			there, do := again(&d, r)
			if there {
				do(&w)
			}
			if w.Bytes() != s[:r.At()] {
				t.Fatalf("% X, not % X", w.Bytes(), s[:r.At()])
			}
		}
	}
}

// P2.5: cut short.

func TestWhatIsCutShortIsReadUpToThere(t *testing.T) {
	d := dice(7)
	for range 300 {
		var w wire.Writer
		var l []item
		begins := []int{}
		for range 1 + d.below(6) {
			one := anItem(&d)
			begins = append(begins, w.Len())
			one.write(&w)
			l = append(l, one)
		}
		all, ends := w.Bytes(), append(begins[1:], w.Len())
		for cut := range len(all) {
			checkCut(t, all[:cut], l, begins, ends)
		}
	}
}

// checkCut reads things off bytes that are cut short.
func checkCut(t *testing.T, s string, l []item, begins, ends []int) {
	t.Helper()
	r := wire.New(s)
	for i, one := range l {
		same := one.same(r)
		if ends[i] <= len(s) {
			if wrong := at(r, s, ends[i], api.OK); wrong != "" || !same {
				t.Fatalf("%s, whole, of %d bytes: %v, %s", one.name, len(s), same, wrong)
			}
			continue
		}
		if wrong := at(r, s, begins[i], api.ErrShort); wrong != "" {
			t.Fatalf("%s from %d to %d of %d bytes: %s", one.name, begins[i], ends[i], len(s), wrong)
		}
		return
	}
	t.Fatalf("%d bytes of %d are whole", len(s), ends[len(ends)-1])
}

// P2.7: for good.

func TestTheErrorAndItsPlaceStay(t *testing.T) {
	for _, c := range []struct {
		name string
		s    string
		do   func(r *wire.Reader)
		e    api.Errno
	}{
		{"U16", "\x01", func(r *wire.Reader) { r.U16() }, api.ErrShort},
		{"U32", "\x01\x00\x00", func(r *wire.Reader) { r.U32() }, api.ErrShort},
		{"U64", "\x01\x00\x00\x00\x00\x00\x00", func(r *wire.Reader) { r.U64() }, api.ErrShort},
		{"Low", "\x01\x00\x00", func(r *wire.Reader) { r.Low() }, api.ErrShort},
		{"Raw", "\x01ab", func(r *wire.Reader) { r.Raw(4) }, api.ErrShort},
		{"Short, no end", "\x81", func(r *wire.Reader) { r.Short(500) }, api.ErrShort},
		{"Short, a last byte 0", "\x81\x00\x01\x01", func(r *wire.Reader) { r.Short(500) }, api.ErrForm},
		{"Short, too large", "\x05\x01abcdefgh", func(r *wire.Reader) { r.Short(4) }, api.ErrTooLarge},
		{"Text, cut short", "\x05\x01abc", func(r *wire.Reader) { r.Text(5) }, api.ErrShort},
		{"Text, a last byte 0", "\x81\x00\x01\x01", func(r *wire.Reader) { r.Text(5) }, api.ErrForm},
		{"Text, too large", "\x05abcdefghijk", func(r *wire.Reader) { r.Text(4) }, api.ErrTooLarge},
		{"U8", "", func(r *wire.Reader) { r.U8() }, api.ErrShort},
	} {
		for _, ahead := range []string{"", "\x01\x00"} {
			s := ahead + c.s
			r := wire.New(s)
			r.Raw(len(ahead))
			c.do(r)
			for range 3 {
				if wrong := at(r, s, len(ahead), c.e); wrong != "" {
					t.Errorf("%s behind %d: %s", c.name, len(ahead), wrong)
				}
				if name := asked(r); name != "" {
					t.Errorf("%s behind %d: %s is something", c.name, len(ahead), name)
				}
			}
		}
	}
}

// What is asked of the Reader behind an error makes no other error of it, one by one.
func TestNoOtherErrorComesBehindTheFirstOne(t *testing.T) {
	for _, first := range []struct {
		s  string
		do func(r *wire.Reader)
		e  api.Errno
	}{
		{"\x80\x00", func(r *wire.Reader) { r.Short(9) }, api.ErrForm},
		{"\x09\x01", func(r *wire.Reader) { r.Short(8) }, api.ErrTooLarge},
		{"\x09\x01", func(r *wire.Reader) { r.Raw(3) }, api.ErrShort},
	} {
		for name, do := range map[string]func(r *wire.Reader){
			"U8": func(r *wire.Reader) { r.U8() }, "U16": func(r *wire.Reader) { r.U16() }, "U64": func(r *wire.Reader) { r.U64() },
			"Short": func(r *wire.Reader) { r.Short(math.MaxUint64) }, "Short of 0": func(r *wire.Reader) { r.Short(0) },
			"Text": func(r *wire.Reader) { r.Text(math.MaxInt) }, "Text of 0": func(r *wire.Reader) { r.Text(0) },
			"Raw": func(r *wire.Reader) { r.Raw(1) }, "Raw of 3": func(r *wire.Reader) { r.Raw(3) },
			"End": func(r *wire.Reader) { r.End() },
		} {
			r := wire.New(first.s)
			first.do(r)
			do(r)
			if wrong := at(r, first.s, 0, first.e); wrong != "" {
				t.Errorf("% X, then %s: %s", first.s, name, wrong)
			}
		}
	}
}
