package codec_test

import (
	"fmt"
	"math"
	"slices"
	"strings"
	"testing"

	"souk/api"
	"souk/codec"
	"souk/schema"
	"souk/wire"
)

// dice tells numbers that look like any, the same ones in each run.
type dice uint64

func (d *dice) next() uint64 {
	*d ^= *d << 13
	*d ^= *d >> 7
	*d ^= *d << 17
	return uint64(*d) * 0x2545F4914F6CDD1D
}

func (d *dice) below(n int) int { return int(d.next() % uint64(n)) }

// between tells a number from low to high: small ones as often as great ones.
func (d *dice) between(low, high int64) int64 {
	return low + int64(d.next()>>d.below(64)%uint64(high-low+1))
}

func (d *dice) name() string {
	const letters = "abcdefghijklmnopqrstuvwxyz0123456789-_"
	b := make([]byte, 1+d.below(api.MaxText))
	for i := range b {
		b[i] = letters[d.below(len(letters))]
	}
	return string(b)
}

// event tells one that may be, of any kind of any version.
func (d *dice) event() api.Event {
	v := uint8(1 + d.below(3))
	l := schema.Kinds(v)
	kind := l[d.below(len(l))]
	e := api.Event{V: v, Kind: kind, Nums: pick(v, kind, d.between)}
	if _, text, _ := schema.Fields(v, kind); text {
		e.Texts = []string{d.name()}
	}
	return e
}

func (d *dice) events(n int) []api.Event {
	var l []api.Event
	for range n {
		l = append(l, d.event())
	}
	return l
}

// distinct tells the events without those that are the same as one ahead.
func distinct(l []api.Event) []api.Event {
	var once []api.Event
	seen := map[string]int{}
	for _, e := range l {
		told := fmt.Sprint(e)
		if seen[told]++; seen[told] == 1 {
			once = append(once, e)
		}
	}
	return once
}

// pick tells numbers for a kind: for each the one that is picked from its bounds.
func pick(v, kind uint8, from func(low, high int64) int64) []int64 {
	var nums []int64
	l, _, _ := schema.Fields(v, kind)
	for _, c := range l {
		low, high, _ := schema.Bound(v, c)
		nums = append(nums, from(low, high))
	}
	return nums
}

func low(low, high int64) int64  { return low }
func high(low, high int64) int64 { return high }

// samples are events of each kind in each version, with the least numbers, the
// greatest ones, and unlike ones, and with names of each length.
func samples() []api.Event {
	var l []api.Event
	for v := uint8(1); v <= 3; v++ {
		for _, kind := range schema.Kinds(v) {
			n := int64(0)
			mixed := func(low, high int64) int64 { n += 40; return low + n*n%(high-low+1) }
			for _, nums := range [][]int64{pick(v, kind, low), pick(v, kind, high), pick(v, kind, mixed)} {
				e := api.Event{V: v, Kind: kind, Nums: nums}
				if _, text, _ := schema.Fields(v, kind); !text {
					l = append(l, e)
					continue
				}
				for size := 1; size <= api.MaxText; size++ {
					e.Texts = []string{"z-0_9aqwertyuiopsdfghjkl"[:size]}
					l = append(l, e)
				}
			}
		}
	}
	return l
}

// with tells the event with another number in the place of one.
func with(e api.Event, i int, n int64) api.Event {
	e.Nums = slices.Clone(e.Nums)
	e.Nums[i] = n
	return e
}

// notBe are events that may not be.
func notBe() []api.Event {
	l := []api.Event{{}, {V: 3}, {Kind: api.Closed, Nums: []int64{1}}, {V: 3, Nums: []int64{1}}}
	for _, e := range samples() {
		fields, text, _ := schema.Fields(e.V, e.Kind)
		for i, c := range fields {
			least, greatest, _ := schema.Bound(e.V, c)
			for _, n := range []int64{least - 1, greatest + 1, -greatest, math.MinInt64, math.MaxInt64} {
				l = append(l, with(e, i, n))
			}
		}
		other := func(change func(o *api.Event)) {
			o := e
			change(&o)
			l = append(l, o)
		}
		for _, v := range []uint8{0, 4, 255} {
			other(func(o *api.Event) { o.V = v })
		}
		for _, kind := range []uint8{0, 24, 255} {
			other(func(o *api.Event) { o.Kind = kind })
		}
		other(func(o *api.Event) { o.Nums = nil })
		other(func(o *api.Event) { o.Nums = e.Nums[1:] })
		other(func(o *api.Event) { o.Nums = append(slices.Clone(e.Nums), 1) })
		other(func(o *api.Event) { o.Texts = append(slices.Clone(e.Texts), "ann") })
		if text {
			for _, s := range []string{"", "A", "a b", "a\x00", "\xff", strings.Repeat("a", 25)} {
				other(func(o *api.Event) { o.Texts = []string{s} })
			}
			other(func(o *api.Event) { o.Texts = nil })
		}
	}
	// Kinds that a version has not yet.
	l = append(l, api.Event{V: 1, Kind: api.Transferred, Nums: []int64{1, 2, 3}})
	for v := uint8(1); v <= 2; v++ {
		l = append(l, api.Event{V: v, Kind: api.Renamed, Nums: []int64{1}, Texts: []string{"ann"}})
		l = append(l, api.Event{V: v, Kind: api.Ticked, Nums: []int64{1, 100}})
	}
	return l
}

// short is a short number's bytes by the words of the document.
func short(n uint64) string {
	var b []byte
	for ; n/128 > 0; n /= 128 {
		b = append(b, byte(n%128)+0x80)
	}
	return string(append(b, byte(n)))
}

// text is a text's bytes by the words of the document.
func text(s string) string { return short(uint64(len(s))) + s }

// spelt are an event's bytes by the words of the document, may it be or not.
func spelt(e api.Event) string {
	s := string([]byte{e.V, e.Kind})
	for _, n := range e.Nums {
		s += short(uint64(n))
	}
	for _, name := range e.Texts {
		s += text(name)
	}
	return s
}

// tooLong are bytes that are no short number, for their tenth byte, and for a
// last group of 0.
func tooLong() []string {
	nine := strings.Repeat("\xff", 9)
	return []string{nine + "\x02", nine + "\x80", nine + "\xff\x01", "\x80\x00", "\xff\x00", "\x81\x80\x00", nine + "\x00"}
}

// slowShort reads a short number by the words of the document.
func slowShort(s string, most uint64) (n uint64, rest string, e api.Errno) {
	for i := 0; ; i++ {
		if i == len(s) {
			return 0, "", api.ErrShort
		}
		if i == 9 && s[i] > 1 {
			return 0, "", api.ErrForm
		}
		n += uint64(s[i]&0x7F) << (7 * i)
		if s[i]&0x80 != 0 {
			continue
		}
		if s[i] == 0 && i > 0 {
			return 0, "", api.ErrForm
		}
		if n > most {
			return 0, "", api.ErrTooLarge
		}
		return n, s[i+1:], api.OK
	}
}

// slowDecode decodes an event by the words of the document.
func slowDecode(s string) (api.Event, api.Errno) {
	if s == "" {
		return api.Event{}, api.ErrShort
	}
	if s[0] < 1 || s[0] > 3 {
		return api.Event{}, api.ErrVersion
	}
	if len(s) == 1 {
		return api.Event{}, api.ErrShort
	}
	e, rest := api.Event{V: s[0], Kind: s[1]}, s[2:]
	l, text, is := schema.Fields(e.V, e.Kind)
	if !is {
		return api.Event{}, api.ErrForm
	}
	for _, c := range l {
		least, greatest, _ := schema.Bound(e.V, c)
		n, behind, wrong := slowShort(rest, uint64(greatest))
		if wrong == api.OK && int64(n) < least {
			wrong = api.ErrForm
		}
		if wrong != api.OK {
			return api.Event{}, wrong
		}
		e.Nums, rest = append(e.Nums, int64(n)), behind
	}
	if text {
		size, behind, wrong := slowShort(rest, 24)
		if wrong == api.OK && int(size) > len(behind) {
			wrong = api.ErrShort
		}
		if wrong == api.OK && !schema.MayName(behind[:size]) {
			wrong = api.ErrForm
		}
		if wrong != api.OK {
			return api.Event{}, wrong
		}
		e.Texts, rest = []string{behind[:size]}, behind[size:]
	}
	if rest != "" {
		return api.Event{}, api.ErrForm
	}
	return e, api.OK
}

// decodes says what is wrong with what is decoded: of an error no event.
func decodes(t *testing.T, s string, want api.Event, wrong api.Errno) {
	t.Helper()
	if e, got := codec.Decode(s); !schema.Same(e, want) || got != wrong {
		t.Errorf("Decode(% X): %+v, %v, not %+v, %v", s, e, got, want, wrong)
	}
}

// refused says what is wrong with how bytes are refused: by Decode, and by Get,
// which is not told the version among them and leaves what is behind.
func refused(t *testing.T, s string, wrong api.Errno) {
	t.Helper()
	decodes(t, s, api.Event{}, wrong)
	if s == "" {
		return
	}
	for _, behind := range []string{"", "!"} {
		if behind != "" && wrong == api.ErrShort {
			continue
		}
		if e, got := codec.Get(wire.New(s[1:]+behind), s[0]); !schema.Same(e, api.Event{}) || got != wrong {
			t.Errorf("Get(% X, %d): %+v, %v, not %v", s[1:]+behind, s[0], e, got, wrong)
		}
	}
}

// encodes tells the bytes of an event that may be.
func encodes(t *testing.T, e api.Event) string {
	t.Helper()
	s, wrong := codec.Encode(e)
	if wrong != api.OK {
		t.Fatalf("Encode(%+v): %v", e, wrong)
	}
	return s
}

// P6.1: Encode, Decode, Size.

// written are events, and their bytes written out.
var written = []struct {
	e api.Event
	s string
}{
	{api.Event{V: 3, Kind: api.Deposited, Nums: []int64{1, 500}}, "\x03\x06\x01\xf4\x03"},
	{api.Event{V: 1, Kind: api.Deposited, Nums: []int64{1, 5}}, "\x01\x06\x01\x05"},
	{api.Event{V: 3, Kind: api.Opened, Nums: []int64{2}, Texts: []string{"ab"}}, "\x03\x01\x02\x02ab"},
	{api.Event{V: 1, Kind: api.Listed, Nums: []int64{16}, Texts: []string{"-"}}, "\x01\x03\x10\x01-"},
	{api.Event{V: 2, Kind: api.Listed, Nums: []int64{16, 128}, Texts: []string{"0_0"}}, "\x02\x03\x10\x80\x01\x030_0"},
	{api.Event{V: 3, Kind: api.Renamed, Nums: []int64{64}, Texts: []string{"abcdefghijklmnopqrstuvwx"}}, "\x03\x16\x40\x18abcdefghijklmnopqrstuvwx"},
	{api.Event{V: 1, Kind: api.FeeSet, Nums: []int64{0}}, "\x01\x0a\x00"},
	{api.Event{V: 2, Kind: api.Placed, Nums: []int64{1, 2, 3, 0, 700, 9}}, "\x02\x0b\x01\x02\x03\x00\xbc\x05\x09"},
	{api.Event{V: 3, Kind: api.Traded, Nums: []int64{3, 2, 10, 2, 0}}, "\x03\x0d\x03\x02\x0a\x02\x00"},
	{api.Event{V: 1, Kind: api.English, Nums: []int64{4, 1, 2, 6, 7, 5}}, "\x01\x0e\x04\x01\x02\x06\x07\x05"},
	{api.Event{V: 3, Kind: api.English, Nums: []int64{4, 1, 2, 6, 700, 100, 50}}, "\x03\x0e\x04\x01\x02\x06\xbc\x05\x64\x32"},
	{api.Event{V: 3, Kind: api.Moved, Nums: []int64{1 << 40}}, "\x03\x14\x80\x80\x80\x80\x80\x20"},
	{api.Event{V: 2, Kind: api.Withdrawn, Nums: []int64{1, 1 << 50}}, "\x02\x07\x01\x80\x80\x80\x80\x80\x80\x80\x02"},
	{api.Event{V: 3, Kind: api.Ticked, Nums: []int64{1, 1 << 30}}, "\x03\x17\x01\x80\x80\x80\x80\x04"},
}

func TestEventsAsBytes(t *testing.T) {
	for _, c := range written {
		if s, wrong := codec.Encode(c.e); s != c.s || wrong != api.OK {
			t.Errorf("Encode(%+v): % X, %v, not % X", c.e, s, wrong, c.s)
		}
		if size := codec.Size(c.e); size != len(c.s) {
			t.Errorf("Size(%+v): %d, not %d", c.e, size, len(c.s))
		}
		decodes(t, c.s, c.e, api.OK)
	}
}

func TestEachKindInEachVersionAsBytes(t *testing.T) {
	for _, e := range samples() {
		s, wrong := codec.Encode(e)
		if s != spelt(e) || wrong != api.OK {
			t.Errorf("Encode(%+v): % X, %v, not % X", e, s, wrong, spelt(e))
		}
		if size := codec.Size(e); size != len(s) {
			t.Errorf("Size(%+v): %d, not %d", e, size, len(s))
		}
	}
}

func TestWhatMayNotBeHasNoBytes(t *testing.T) {
	for _, e := range notBe() {
		if s, wrong := codec.Encode(e); s != "" || wrong != api.ErrForm {
			t.Errorf("Encode(%+v): % X, %v", e, s, wrong)
		}
		if size := codec.Size(e); size != 0 {
			t.Errorf("Size(%+v): %d", e, size)
		}
	}
}

func TestNothingIsShort(t *testing.T) {
	refused(t, "", api.ErrShort)
	refused(t, "\x01", api.ErrShort)
	refused(t, "\x02", api.ErrShort)
	refused(t, "\x03", api.ErrShort)
}

func TestVersionsThatThereAreNot(t *testing.T) {
	for v := range 256 {
		if v >= 1 && v <= 3 {
			continue
		}
		for _, behind := range []string{"", "\x06\x01\xf4\x03", "\x00", "\x80", "\x06\x01"} {
			refused(t, string([]byte{byte(v)})+behind, api.ErrVersion)
		}
	}
}

func TestKindsThatAVersionHasNot(t *testing.T) {
	for v := uint8(1); v <= 3; v++ {
		for kind := range 256 {
			if slices.Contains(schema.Kinds(v), uint8(kind)) {
				continue
			}
			for _, behind := range []string{"", "\x01", "\x01\x02\x03", "\x80\x00", "\x01\x02ab"} {
				refused(t, string([]byte{v, byte(kind)})+behind, api.ErrForm)
			}
		}
	}
	refused(t, "\x01\x15\x01\x02\x03", api.ErrForm)
	refused(t, "\x02\x16\x01\x02ab", api.ErrForm)
	refused(t, "\x02\x17\x01\x64", api.ErrForm)
}

func TestNumbersOutOfTheirBounds(t *testing.T) {
	for _, e := range samples() {
		l, _, _ := schema.Fields(e.V, e.Kind)
		for i, c := range l {
			least, greatest, _ := schema.Bound(e.V, c)
			for _, n := range []int64{least, greatest} {
				decodes(t, spelt(with(e, i, n)), with(e, i, n), api.OK)
			}
			if least > 0 {
				refused(t, spelt(with(e, i, least-1)), api.ErrForm)
			}
			// Those below 0 stand for numbers from 2^63 to 2^64 - 1.
			for _, n := range []int64{greatest + 1, greatest + 1<<32, math.MaxInt64, math.MinInt64, math.MinInt64 + 1, -1} {
				refused(t, spelt(with(e, i, n)), api.ErrTooLarge)
			}
		}
	}
}

func TestNumbersThatAreNone(t *testing.T) {
	for _, e := range samples() {
		for i := range e.Nums {
			ahead, behind := e, e
			ahead.Nums, ahead.Texts = e.Nums[:i], nil
			behind.Nums = e.Nums[i+1:]
			for _, bad := range tooLong() {
				refused(t, spelt(ahead)+bad+spelt(behind)[2:], api.ErrForm)
			}
			refused(t, spelt(ahead)+"\xff\xff\xff\xff\xff\xff\xff\xff\xff\x01"+spelt(behind)[2:], api.ErrTooLarge)
		}
	}
}

func TestNamesOfALength(t *testing.T) {
	for _, ahead := range []string{"\x01\x01\x01", "\x01\x03\x01", "\x03\x03\x01\x01", "\x03\x16\x01"} {
		refused(t, ahead+"\x00", api.ErrForm)
		for size := 1; size <= 300; size++ {
			name := strings.Repeat("a", size)
			if size > 24 {
				refused(t, ahead+text(name), api.ErrTooLarge)
			} else if e, wrong := codec.Decode(ahead + text(name)); !slices.Equal(e.Texts, []string{name}) || wrong != api.OK {
				t.Errorf("Decode(% X): %+v, %v", ahead+text(name), e, wrong)
			}
		}
		for _, bad := range tooLong() {
			refused(t, ahead+bad+"ann", api.ErrForm)
		}
		refused(t, ahead+short(1<<32+3)+"ann", api.ErrTooLarge)
		refused(t, ahead+short(math.MaxUint64)+"ann", api.ErrTooLarge)
	}
}

func TestBytesThatMayNotStandInAName(t *testing.T) {
	for n := range 256 {
		c := string([]byte{byte(n)})
		may := strings.Contains("abcdefghijklmnopqrstuvwxyz0123456789-_", c)
		for _, name := range []string{c, c + "nn", "an" + c, strings.Repeat("a", 23) + c} {
			if s := "\x03\x01\x07" + text(name); may {
				decodes(t, s, api.Event{V: 3, Kind: api.Opened, Nums: []int64{7}, Texts: []string{name}}, api.OK)
			} else {
				refused(t, s, api.ErrForm)
			}
		}
	}
}

func TestTheFirstErrorCounts(t *testing.T) {
	for _, c := range []struct {
		s    string
		want api.Errno
	}{
		{"\x04\x00", api.ErrVersion},
		{"\x00\x00\x80\x00", api.ErrVersion},
		{"\x03\x00", api.ErrForm},
		{"\x01\x15", api.ErrForm},
		{"\x03\x06", api.ErrShort},
		{"\x03\x06\x00", api.ErrForm},
		{"\x03\x06\x00\x80\x00", api.ErrForm},
		{"\x03\x06\x00\xff\xff\xff\xff\xff\xff\xff\xff\xff\x01", api.ErrForm},
		{"\x03\x06\x41", api.ErrTooLarge},
		{"\x03\x06\x41\x00", api.ErrTooLarge},
		{"\x03\x06\x41\x80\x00", api.ErrTooLarge},
		{"\x03\x06\x80", api.ErrShort},
		{"\x03\x06\xff\xff\xff\xff\xff\xff\xff\xff\xff", api.ErrShort},
		{"\x03\x06\x80\x00", api.ErrForm},
		{"\x03\x06\x80\x00\xff", api.ErrForm},
		{"\x03\x06\x01\x00!", api.ErrForm},
		{"\x03\x0b\x01\x02\x03\x03\x00\x00", api.ErrTooLarge},
		{"\x03\x0b\x01\x02\x03\x00\xff\xff\xff\xff\x7f", api.ErrForm},
		{"\x03\x01\x00\x19", api.ErrForm},
		{"\x03\x01\x41\x00", api.ErrTooLarge},
		{"\x03\x01\x01\x00", api.ErrForm},
		{"\x03\x01\x01\x19", api.ErrTooLarge},
		{"\x03\x01\x01\x19A", api.ErrTooLarge},
		{"\x03\x01\x01\x02A", api.ErrShort},
		{"\x03\x01\x01\x18 ", api.ErrShort},
		{"\x03\x01\x01\x82\x00A", api.ErrForm},
		{"\x03\x01\x01\x01A", api.ErrForm},
	} {
		refused(t, c.s, c.want)
	}
	decodes(t, "\x03\x06\x41\x05!", api.Event{}, api.ErrTooLarge)
	decodes(t, "\x03\x06\x01\x05!", api.Event{}, api.ErrForm)
	decodes(t, "\x03\x01\x01\x19aaaaaaaaaaaaaaaaaaaaaaaaaaaaaaaaaaaaaaaa", api.Event{}, api.ErrTooLarge)
}

// P6.2: Put, Get.

func TestPutWritesNoVersion(t *testing.T) {
	for _, e := range samples() {
		var w wire.Writer
		if wrong := codec.Put(&w, e); w.Bytes() != spelt(e)[1:] || wrong != api.OK {
			t.Errorf("Put(%+v): % X, %v, not % X", e, w.Bytes(), wrong, spelt(e)[1:])
		}
	}
}

func TestNothingIsPutBehindAnError(t *testing.T) {
	for _, e := range notBe() {
		var w wire.Writer
		if wrong := codec.Put(&w, e); w.Len() != 0 || wrong != api.ErrForm {
			t.Errorf("Put(%+v): % X, %v", e, w.Bytes(), wrong)
		}
		w.Text("souk")
		if wrong := codec.Put(&w, e); w.Bytes() != "\x04souk" || wrong != api.ErrForm {
			t.Errorf("Put(%+v): % X, %v", e, w.Bytes(), wrong)
		}
	}
}

func TestAWriterOfNil(t *testing.T) {
	for _, e := range samples() {
		if wrong := codec.Put(nil, e); wrong != api.OK {
			t.Errorf("Put(nil, %+v): %v", e, wrong)
		}
	}
	for _, e := range notBe() {
		if wrong := codec.Put(nil, e); wrong != api.ErrForm {
			t.Errorf("Put(nil, %+v): %v", e, wrong)
		}
	}
}

// gets says what is wrong with an error of Get, and with what it tells beside.
func gets(t *testing.T, r *wire.Reader, v uint8, wrong api.Errno) {
	t.Helper()
	if e, got := codec.Get(r, v); !schema.Same(e, api.Event{}) || got != wrong {
		t.Errorf("Get of version %d: %+v, %v, not %v", v, e, got, wrong)
	}
}

func TestAReaderOfNil(t *testing.T) {
	for v := uint8(1); v <= 3; v++ {
		gets(t, nil, v, api.ErrNil)
	}
	// That there is no such version stands ahead of what reading answers.
	for _, v := range []uint8{0, 4, 255} {
		gets(t, nil, v, api.ErrVersion)
	}
}

func TestAReaderThatHasAnError(t *testing.T) {
	for _, c := range []struct {
		s     string
		read  func(r *wire.Reader)
		wrong api.Errno
	}{
		{"\x07\x06\x01\x05", func(r *wire.Reader) { r.Short(6) }, api.ErrTooLarge},
		{"\x80\x00\x06\x01\x05", func(r *wire.Reader) { r.Short(6) }, api.ErrForm},
		{"\x05\x06\x01\x05", func(r *wire.Reader) { r.Text(9) }, api.ErrShort},
		{"\x06\x01\x05", func(r *wire.Reader) { r.U32() }, api.ErrShort},
	} {
		for v := range uint8(5) {
			r := wire.New(c.s)
			c.read(r)
			if v < 1 || v > 3 {
				gets(t, r, v, api.ErrVersion)
			} else {
				gets(t, r, v, c.wrong)
			}
			if again, place := r.Err(); again != c.wrong || place != 0 || r.At() != 0 {
				t.Errorf("%v, then %v at %d, %d taken", c.wrong, again, place, r.At())
			}
		}
	}
}

func TestGetTakesTheEventOfThatVersion(t *testing.T) {
	for v, nums := range map[uint8][]int64{1: {4, 1, 2, 6, 7, 5}, 2: {4, 1, 2, 6, 7, 5, 9}, 3: {4, 1, 2, 6, 7, 5, 9}} {
		r := wire.New("\x0e\x04\x01\x02\x06\x07\x05\x09")
		e, wrong := codec.Get(r, v)
		if !schema.Same(e, api.Event{V: v, Kind: api.English, Nums: nums}) || wrong != api.OK || r.At() != 1+len(nums) {
			t.Errorf("Get of version %d: %+v, %v, %d taken", v, e, wrong, r.At())
		}
	}
	// The same bytes are too great a fee, or a side, in one version alone.
	gets(t, wire.New("\x0a\x0b"), 1, api.ErrTooLarge)
	gets(t, wire.New("\x0b\x01\x01\x01\x00\x01\x01"), 3, api.ErrForm)
	gets(t, wire.New("\x0b\x01\x01\x01\x02\x01\x01"), 2, api.ErrTooLarge)
}

// P6.3: back.

func TestAnEventIsDecodedAsItIs(t *testing.T) {
	d := dice(6)
	for _, e := range slices.Concat(samples(), d.events(5000)) {
		s := encodes(t, e)
		decodes(t, s, e, api.OK)
		if size := codec.Size(e); size != len(s) {
			t.Errorf("Size(%+v): %d, not %d", e, size, len(s))
		}
	}
}

// altered tells bytes that are nearly those of an event.
func (d *dice) altered(s string) string {
	i := d.below(len(s) + 1)
	part := []string{"", "\x00", "\x01", "\x80", "\x80\x00", "\xff", short(d.next() >> d.below(64)), "A", string([]byte{byte(d.below(256))}), text(d.name())}[d.below(10)]
	switch d.below(5) {
	case 0:
		return s[:i] + part + s[i:]
	case 1:
		return s[:i] + part + s[min(len(s), i+max(1, len(part))):]
	case 2:
		return s[:i] + part + s[min(len(s), i+1):]
	case 3:
		return s[:i] + part
	}
	return string([]byte{byte(d.below(5)), byte(d.below(26))}) + s[min(len(s), 2):]
}

func TestWhateverBytesAreRefusedOrJustThoseOfAnEvent(t *testing.T) {
	d := dice(36)
	read := 0
	for range 200000 {
		s := spelt(d.event())
		for range 1 + d.below(3) {
			s = d.altered(s)
		}
		want, wrong := slowDecode(s)
		decodes(t, s, want, wrong)
		if wrong != api.OK {
			continue
		}
		read++
		if again := encodes(t, want); again != s {
			t.Errorf("% X: decoded, encoded: % X", s, again)
		}
	}
	if read < 10000 || read > 190000 {
		t.Errorf("%d of 200000 are an event's", read)
	}
}

// P6.4: cut short.

func TestBytesThatAreCutShort(t *testing.T) {
	d := dice(64)
	for _, e := range slices.Concat(samples(), d.events(1000)) {
		s := encodes(t, e)
		for n := range len(s) {
			refused(t, s[:n], api.ErrShort)
		}
	}
}

func TestBytesWithMoreBehindThem(t *testing.T) {
	d := dice(46)
	for _, e := range slices.Concat(samples(), d.events(100)) {
		s := encodes(t, e)
		for n := range 256 {
			decodes(t, s+string([]byte{byte(n)}), api.Event{}, api.ErrForm)
		}
		decodes(t, s+s, api.Event{}, api.ErrForm)
		decodes(t, s+strings.Repeat("\x00", 1<<16), api.Event{}, api.ErrForm)
	}
}

// P6.5: unlike.

func TestUnlikeEventsHaveUnlikeBytes(t *testing.T) {
	d := dice(65)
	var all []string
	for _, e := range distinct(slices.Concat(samples(), d.events(20000))) {
		all = append(all, encodes(t, e))
	}
	// Of those that begin by one, one stands right behind it.
	slices.Sort(all)
	for i := 1; i < len(all); i++ {
		if strings.HasPrefix(all[i], all[i-1]) {
			t.Errorf("% X begins by % X", all[i], all[i-1])
		}
	}
}

// P6.6: among others.

func TestAnEventAmongOtherThings(t *testing.T) {
	d := dice(66)
	for _, e := range slices.Concat(samples(), d.events(1000)) {
		var w wire.Writer
		w.Text("ahead")
		w.U16(258)
		ahead := w.Len()
		if wrong := codec.Put(&w, e); wrong != api.OK || w.Len() != ahead+codec.Size(e)-1 {
			t.Errorf("Put(%+v): %v, %d bytes", e, wrong, w.Len()-ahead)
		}
		w.Short(300)
		w.Text("behind")
		r := wire.New(w.Bytes())
		if s, n := r.Text(9), r.U16(); s != "ahead" || n != 258 {
			t.Errorf("%q, %d", s, n)
		}
		got, wrong := codec.Get(r, e.V)
		if !schema.Same(got, e) || wrong != api.OK || r.At() != ahead+codec.Size(e)-1 {
			t.Errorf("Get: %+v, %v, not %+v; %d taken", got, wrong, e, r.At()-ahead)
		}
		if n, s := r.Short(300), r.Text(9); n != 300 || s != "behind" || r.End() != api.OK {
			t.Errorf("%d, %q, %v", n, s, r.End())
		}
	}
}

func TestEventsOneBehindTheOther(t *testing.T) {
	d := dice(666)
	l := d.events(3000)
	var w wire.Writer
	for _, e := range l {
		if wrong := codec.Put(&w, e); wrong != api.OK {
			t.Fatal(wrong)
		}
	}
	r := wire.New(w.Bytes())
	for i, e := range l {
		if got, wrong := codec.Get(r, e.V); !schema.Same(got, e) || wrong != api.OK {
			t.Fatalf("%d: %+v, %v, not %+v", i, got, wrong, e)
		}
	}
	if end := r.End(); end != api.OK {
		t.Error(end)
	}
	gets(t, r, 3, api.ErrShort)
}

// R1: what is told shares no memory, what is handed in stays.

func TestWhatIsToldMayBeWrittenOver(t *testing.T) {
	for _, e := range samples() {
		s := spelt(e)
		first, _ := codec.Decode(s)
		again, _ := codec.Decode(s)
		for _, got := range []api.Event{first, again} {
			nums := got.Nums[:cap(got.Nums)]
			for i := range nums {
				nums[i] = -7
			}
			for i := range got.Texts {
				got.Texts[i] = "!"
			}
			decodes(t, s, e, api.OK)
		}
	}
}

func TestWhatIsHandedInStays(t *testing.T) {
	for _, e := range slices.Concat(samples(), notBe()) {
		nums, texts := slices.Clone(e.Nums), slices.Clone(e.Texts)
		var w wire.Writer
		codec.Encode(e)
		codec.Size(e)
		codec.Put(&w, e)
		if !slices.Equal(e.Nums, nums) || !slices.Equal(e.Texts, texts) {
			t.Errorf("%+v: was %v, %q", e, nums, texts)
		}
		// What was put stays, whatever becomes of the event.
		s := w.Bytes()
		for i := range e.Nums {
			e.Nums[i]++
		}
		if w.Bytes() != s {
			t.Errorf("%+v: % X, then % X", e, s, w.Bytes())
		}
	}
}
