package batch_test

import (
	"math"
	"slices"
	"strings"
	"testing"

	"souk/api"
	"souk/batch"
	"souk/codec"
	"souk/schema"
	"souk/upcast"
)

// dice tells numbers that look like any, the same ones in each run.
type dice uint64

func (d *dice) next() uint64 {
	*d ^= *d << 13
	*d ^= *d >> 7
	*d ^= *d << 17
	return uint64(*d) * 0x2545F4914F6CDD1D
}

func (d *dice) below(n int) int { return int(d.next() % uint64(n)) }

// between tells a number from low to high: small ones as often as great ones,
// and many that are whole hundreds.
func (d *dice) between(low, high int64) int64 {
	n := low + int64(d.next()>>d.below(64)%uint64(high-low+1))
	if round := n / 100 * 100; d.below(4) > 0 && round >= low {
		return round
	}
	return n
}

func low(low, high int64) int64  { return low }
func high(low, high int64) int64 { return high }

// pick tells an event of a kind: each number is the one picked from its bounds.
func pick(v, kind uint8, from func(low, high int64) int64) api.Event {
	e := api.Event{V: v, Kind: kind}
	l, text, _ := schema.Fields(v, kind)
	for _, c := range l {
		low, high, _ := schema.Bound(v, c)
		e.Nums = append(e.Nums, from(low, high))
	}
	if text {
		e.Texts = []string{"a-b_9"}
	}
	return e
}

// events tells n events of a version, of which many can be said in lesser ones:
// they are made in one of these, and lifted.
func (d *dice) events(v uint8, n int) []api.Event {
	var l []api.Event
	of := uint8(1 + d.below(int(v)))
	kinds := schema.Kinds(of)
	for range n {
		e, _ := upcast.To(pick(of, kinds[d.below(len(kinds))], d.between), v)
		l = append(l, e)
	}
	return l
}

// kindBatches are batches of one event, of each kind of each version, with the
// least numbers and the greatest ones, and one of all kinds of each version.
func kindBatches() [][]api.Event {
	var all [][]api.Event
	for v := uint8(1); v <= 3; v++ {
		var l []api.Event
		for _, kind := range schema.Kinds(v) {
			all = append(all, []api.Event{pick(v, kind, low)}, []api.Event{pick(v, kind, high)})
			l = append(l, pick(v, kind, high))
		}
		all = append(all, l)
	}
	return all
}

// anyBatches are batches of any numbers of events, of each version, and each
// version's shortest and longest ones.
func anyBatches(seed uint64, n int) [][]api.Event {
	d := dice(seed)
	var all [][]api.Event
	for v := uint8(1); v <= 3; v++ {
		all = append(all, d.events(v, 1), d.events(v, 2), d.events(v, 39), d.events(v, 40))
		for range n {
			all = append(all, d.events(v, 1+d.below(40)>>d.below(6)))
		}
	}
	return all
}

func batches(seed uint64, n int) [][]api.Event {
	return slices.Concat(kindBatches(), anyBatches(seed, n))
}

// copied is a list as it is now, whatever becomes of it.
func copied(of []api.Event) []api.Event {
	var l []api.Event
	for _, e := range of {
		e.Nums, e.Texts = slices.Clone(e.Nums), slices.Clone(e.Texts)
		l = append(l, e)
	}
	return l
}

// instead tells a list with another event in the place of one.
func instead(l []api.Event, i int, e api.Event) []api.Event {
	l = slices.Clone(l)
	l[i] = e
	return l
}

// mayNot are events that may not be, each for another reason.
func mayNot() []api.Event {
	return []api.Event{
		{},
		{V: 3},
		{V: 0, Kind: api.Moved, Nums: []int64{50}},
		{V: 4, Kind: api.Moved, Nums: []int64{50}},
		{V: 3, Kind: 0, Nums: []int64{50}},
		{V: 3, Kind: 24, Nums: []int64{50}},
		{V: 1, Kind: api.Transferred, Nums: []int64{1, 2, 3}},
		{V: 2, Kind: api.Ticked, Nums: []int64{1, 100}},
		{V: 3, Kind: api.Moved},
		{V: 3, Kind: api.Moved, Nums: []int64{0}},
		{V: 3, Kind: api.Moved, Nums: []int64{-1}},
		{V: 3, Kind: api.Moved, Nums: []int64{math.MinInt64}},
		{V: 3, Kind: api.Moved, Nums: []int64{1<<40 + 1}},
		{V: 2, Kind: api.Moved, Nums: []int64{109951162778}},
		{V: 3, Kind: api.Moved, Nums: []int64{50, 50}},
		{V: 3, Kind: api.Moved, Nums: []int64{50}, Texts: []string{"ann"}},
		{V: 1, Kind: api.Deposited, Nums: []int64{1, 11258999068427}},
		{V: 3, Kind: api.Deposited, Nums: []int64{65, 500}},
		{V: 3, Kind: api.Deposited, Nums: []int64{1, math.MaxInt64}},
		{V: 3, Kind: api.Opened, Nums: []int64{1}},
		{V: 3, Kind: api.Opened, Nums: []int64{1}, Texts: []string{""}},
		{V: 3, Kind: api.Opened, Nums: []int64{1}, Texts: []string{"Ann"}},
		{V: 3, Kind: api.Opened, Nums: []int64{1}, Texts: []string{"aaaaaaaaaaaaaaaaaaaaaaaaa"}},
		{V: 3, Kind: api.Opened, Nums: []int64{1}, Texts: []string{"ann", "bob"}},
		{V: 3, Kind: api.Placed, Nums: []int64{1, 1, 1, 0, 10, 1}},
		{V: 2, Kind: api.Placed, Nums: []int64{1, 1, 1, 2, 10, 1}},
	}
}

// short is a short number's bytes by the words of the document.
func short(n uint64) string {
	var b []byte
	for ; n/128 > 0; n /= 128 {
		b = append(b, byte(n%128)+0x80)
	}
	return string(append(b, byte(n)))
}

// headed are a version and a number of events ahead of bytes.
func headed(v uint8, n int, behind string) string {
	return string([]byte{v}) + short(uint64(n)) + behind
}

// bare is an event's bytes without its version.
func bare(e api.Event) string {
	s, _ := codec.Encode(e)
	return s[1:]
}

// spelt is a batch's payload by the words of the document.
func spelt(l []api.Event) string {
	var behind string
	for _, e := range l {
		behind += bare(e)
	}
	return headed(l[0].V, len(l), behind)
}

// counted reads how many events there are by the words of the document.
func counted(s string) (n uint64, rest string, wrong api.Errno) {
	for i := range len(s) {
		n += uint64(s[i]%128) << (7 * i)
		switch {
		case i == 9 && s[i] > 1, i > 0 && s[i] == 0:
			return 0, "", api.ErrForm
		case s[i] >= 128:
		case n > 40:
			return 0, "", api.ErrTooLarge
		case n == 0:
			return 0, "", api.ErrForm
		default:
			return n, s[i+1:], api.OK
		}
	}
	return 0, "", api.ErrShort
}

// first reads the event that stands first: none begins by another one's bytes,
// so of all that begin the text one at most is an event.
func first(v uint8, s string) (e api.Event, rest string, wrong api.Errno) {
	ahead := string([]byte{v})
	for n := range min(len(s), 60) + 1 {
		if e, wrong := codec.Decode(ahead + s[:n]); wrong == api.OK {
			return e, s[n:], api.OK
		}
	}
	_, wrong = codec.Decode(ahead + s)
	return api.Event{}, "", wrong
}

// slowDecode decodes a payload by the words of the document.
func slowDecode(s string) ([]api.Event, api.Errno) {
	if s == "" {
		return nil, api.ErrShort
	}
	if s[0] < 1 || s[0] > 3 {
		return nil, api.ErrVersion
	}
	n, rest, wrong := counted(s[1:])
	var l []api.Event
	for range n {
		var e api.Event
		if e, rest, wrong = first(s[0], rest); wrong != api.OK {
			return nil, wrong
		}
		l = append(l, e)
	}
	if wrong == api.OK && rest != "" {
		wrong = api.ErrForm
	}
	if wrong != api.OK {
		return nil, wrong
	}
	return l, api.OK
}

// alike tells whether lists are the same events, without asking the package.
func alike(a, b []api.Event) bool { return slices.EqualFunc(a, b, schema.Same) }

// lifted are a batch's events, each lifted to version 3.
func lifted(l []api.Event) []api.Event {
	var told []api.Event
	for _, e := range l {
		up, _ := upcast.Newest(e)
		told = append(told, up)
	}
	return told
}

// saying are a batch's events, each said in a version, and whether all can be.
func saying(l []api.Event, v uint8) ([]api.Event, bool) {
	var told []api.Event
	for _, e := range l {
		said, wrong := upcast.To(e, v)
		if wrong != api.OK {
			return nil, false
		}
		told = append(told, said)
	}
	return told, true
}

// lowest are a batch's events, said in the least version from v on in which all
// can be.
func lowest(l []api.Event, v uint8) []api.Event {
	for ; ; v++ {
		if told, can := saying(l, v); can {
			return told
		}
	}
}

// encodes tells the payload of a batch.
func encodes(t *testing.T, l []api.Event) string {
	t.Helper()
	s, wrong := batch.Encode(l)
	if wrong != api.OK {
		t.Fatalf("Encode(%v): %d", l, wrong)
	}
	return s
}

// lifts tells the payload of a payload's events, lifted.
func lifts(t *testing.T, s string) string {
	t.Helper()
	told, wrong := batch.Newest(s)
	if wrong != api.OK {
		t.Fatalf("Newest(% X): %d", s, wrong)
	}
	return told
}

// says tells the payload of a batch's events, said from a version on.
func says(t *testing.T, l []api.Event, v uint8) string {
	t.Helper()
	s, wrong := batch.Say(l, v)
	if wrong != api.OK {
		t.Fatalf("Say(%v, %d): %d", l, v, wrong)
	}
	return s
}

// is says what is wrong with a payload that should be another one.
func is(t *testing.T, call string, got, want string) {
	t.Helper()
	if got != want {
		t.Errorf("%s: % X, not % X", call, got, want)
	}
}

// decodes says what is wrong with what is decoded.
func decodes(t *testing.T, s string, want []api.Event) {
	t.Helper()
	if l, wrong := batch.Decode(s); wrong != api.OK || !alike(l, want) {
		t.Errorf("Decode(% X): %v, %d, not %v", s, l, wrong, want)
	}
}

// refused says what is wrong with how bytes are refused: by Decode and by Newest
// alike, with nothing beside the error.
func refused(t *testing.T, s string, want api.Errno) {
	t.Helper()
	if l, wrong := batch.Decode(s); wrong != want || len(l) != 0 {
		t.Errorf("Decode(% X): %v, %d, not %d", s, l, wrong, want)
	}
	if told, wrong := batch.Newest(s); wrong != want || told != "" {
		t.Errorf("Newest(% X): % X, %d, not %d", s, told, wrong, want)
	}
}

// versions are some that there are, and some that there are not.
var versions = []uint8{0, 1, 2, 3, 4, 5, 128, 255}

func isVersion(v uint8) bool { return v >= 1 && v <= 3 }

// noBatch says what is wrong with how events are refused that may not be a batch:
// by Encode, and by Say whatever version is asked.
func noBatch(t *testing.T, l []api.Event, want api.Errno) {
	t.Helper()
	if batch.May(l) {
		t.Errorf("May(%v)", l)
	}
	if s, wrong := batch.Encode(l); wrong != want || s != "" {
		t.Errorf("Encode(%v): % X, %d, not %d", l, s, wrong, want)
	}
	for _, v := range versions {
		if s, wrong := batch.Say(l, v); wrong != want || s != "" {
			t.Errorf("Say(%v, %d): % X, %d, not %d", l, v, s, wrong, want)
		}
	}
}

// event tells an event without a name.
func event(v, kind uint8, nums ...int64) api.Event { return api.Event{V: v, Kind: kind, Nums: nums} }

// moves are n events of a version that are the same.
func moves(v uint8, n int) []api.Event {
	var l []api.Event
	for range n {
		l = append(l, event(v, api.Moved, 50))
	}
	return l
}

// P8.1: May, Encode, Decode, Same.

// payloads are batches, and their payloads written out.
var payloads = []struct {
	l []api.Event
	s string
}{
	{moves(3, 1), "\x03\x01\x14\x32"},
	{[]api.Event{event(1, api.Moved, 5)}, "\x01\x01\x14\x05"},
	{[]api.Event{event(3, api.Deposited, 1, 500), event(3, api.Moved, 70)}, "\x03\x02\x06\x01\xf4\x03\x14\x46"},
	{[]api.Event{event(2, api.Moved, 70), event(2, api.Deposited, 1, 500)}, "\x02\x02\x14\x46\x06\x01\xf4\x03"},
	{[]api.Event{{V: 3, Kind: api.Opened, Nums: []int64{2}, Texts: []string{"ab"}}}, "\x03\x01\x01\x02\x02ab"},
	{[]api.Event{event(3, api.Placed, 3, 2, 1, 1, 12, 9), event(3, api.Traded, 3, 2, 10, 2, 0), event(3, api.Traded, 3, 1, 11, 3, 0)},
		"\x03\x03\x0b\x03\x02\x01\x01\x0c\x09\x0d\x03\x02\x0a\x02\x00\x0d\x03\x01\x0b\x03\x00"},
	{[]api.Event{event(1, api.English, 4, 1, 2, 6, 7, 5)}, "\x01\x01\x0e\x04\x01\x02\x06\x07\x05"},
	{moves(3, 40), "\x03\x28" + strings.Repeat("\x14\x32", 40)},
}

func TestPayloadsWrittenOut(t *testing.T) {
	for _, c := range payloads {
		if !batch.May(c.l) {
			t.Errorf("May(%v): no", c.l)
		}
		is(t, "Encode", encodes(t, c.l), c.s)
		decodes(t, c.s, c.l)
	}
}

func TestEachKindInEachVersionIsABatch(t *testing.T) {
	for _, l := range batches(81, 300) {
		if !batch.May(l) {
			t.Errorf("May(%v): no", l)
		}
		is(t, "Encode", encodes(t, l), spelt(l))
		decodes(t, spelt(l), l)
	}
}

func TestHowManyEventsMayBeABatch(t *testing.T) {
	noBatch(t, nil, api.ErrForm)
	noBatch(t, []api.Event{}, api.ErrForm)
	noBatch(t, moves(3, 9)[:0], api.ErrForm)
	for v := uint8(1); v <= 3; v++ {
		for n := 1; n <= 40; n++ {
			l := moves(v, n)
			if !batch.May(l) {
				t.Errorf("May: %d events of version %d: no", n, v)
			}
			is(t, "Encode", encodes(t, l), headed(v, n, strings.Repeat("\x14\x32", n)))
			decodes(t, spelt(l), l)
		}
		for _, n := range []int{41, 42, 80, 128, 256, 257, 1 << 16} {
			noBatch(t, moves(v, n), api.ErrTooLarge)
		}
	}
	if api.MaxEvents != 40 {
		t.Errorf("MaxEvents is %d", api.MaxEvents)
	}
}

func TestEventsOfUnlikeVersionsAreNoBatch(t *testing.T) {
	for v := uint8(1); v <= 3; v++ {
		for other := uint8(1); other <= 3; other++ {
			for _, n := range []int{2, 3, 40} {
				for i := range n {
					l := instead(moves(v, n), i, event(other, api.Moved, 50))
					if v != other {
						noBatch(t, l, api.ErrForm)
					} else if !batch.May(l) {
						t.Errorf("May(%v): no", l)
					}
				}
			}
		}
	}
	noBatch(t, append(moves(1, 20), moves(2, 20)...), api.ErrForm)
	noBatch(t, append(append(moves(1, 1), moves(2, 1)...), moves(3, 1)...), api.ErrForm)
	noBatch(t, append(moves(1, 20), moves(2, 21)...), api.ErrTooLarge)
}

func TestAnEventThatMayNotBeIsInNoBatch(t *testing.T) {
	for _, bad := range mayNot() {
		noBatch(t, []api.Event{bad}, api.ErrForm)
		noBatch(t, []api.Event{bad, bad}, api.ErrForm)
		for _, n := range []int{2, 40} {
			for i := range n {
				noBatch(t, instead(moves(max(1, min(3, bad.V)), n), i, bad), api.ErrForm)
			}
		}
	}
}

func TestThatTheyAreTooManyComesFirst(t *testing.T) {
	for _, bad := range mayNot() {
		for i := range 41 {
			noBatch(t, instead(moves(max(1, min(3, bad.V)), 41), i, bad), api.ErrTooLarge)
		}
	}
	noBatch(t, make([]api.Event, 41), api.ErrTooLarge)
	noBatch(t, make([]api.Event, 40), api.ErrForm)
}

func TestSameEventsInTheirRow(t *testing.T) {
	all := append(batches(18, 40), nil, moves(3, 41), mayNot(), append(moves(1, 1), moves(2, 1)...))
	for i, a := range all {
		if !batch.Same(a, copied(a)) {
			t.Errorf("Same(%v, itself): no", a)
		}
		for k, b := range all {
			if want := alike(a, b); batch.Same(a, b) != want {
				t.Errorf("Same of %d and %d: not %v", i, k, want)
			}
		}
	}
}

func TestWhateverIsAnotherOneIsNotTheSame(t *testing.T) {
	unlike := func(a, b []api.Event) {
		t.Helper()
		if batch.Same(a, b) || batch.Same(b, a) {
			t.Errorf("Same(%v, %v)", a, b)
		}
	}
	for _, l := range batches(19, 20) {
		unlike(l, nil)
		unlike(l, l[:len(l)-1])
		unlike(l, l[1:])
		unlike(l, append(slices.Clone(l), l[0]))
		for i, e := range l {
			other := func(change func(o *api.Event)) {
				o := copied(l)
				change(&o[i])
				unlike(l, o)
			}
			other(func(o *api.Event) { o.V++ })
			other(func(o *api.Event) { o.Kind++ })
			for n := range e.Nums {
				other(func(o *api.Event) { o.Nums[n]++ })
			}
			other(func(o *api.Event) { o.Nums = o.Nums[1:] })
			other(func(o *api.Event) { o.Nums = append(o.Nums, 0) })
			other(func(o *api.Event) { o.Texts = append(o.Texts, "") })
			other(func(o *api.Event) { o.Texts = append([]string{"z"}, o.Texts[min(1, len(o.Texts)):]...) })
		}
	}
	unlike([]api.Event{event(3, api.Moved, 1), event(3, api.Moved, 2)}, []api.Event{event(3, api.Moved, 2), event(3, api.Moved, 1)})
}

func TestNothingAndNoListAreTheSame(t *testing.T) {
	if !batch.Same(nil, nil) || !batch.Same(nil, []api.Event{}) || !batch.Same([]api.Event{}, nil) || !batch.Same(moves(3, 4)[:0], nil) {
		t.Error("no events are not the same as none")
	}
	none := api.Event{V: 3, Kind: api.Closed}
	empty := api.Event{V: 3, Kind: api.Closed, Nums: []int64{}, Texts: []string{}}
	if !batch.Same([]api.Event{none}, []api.Event{empty}) {
		t.Error("an event without numbers is not the same as one with none")
	}
}

// The errors' table, row of Decode, and of Newest.

func TestNoByteIsShort(t *testing.T) { refused(t, "", api.ErrShort) }

func TestVersionsThatThereAreNot(t *testing.T) {
	for v := range 256 {
		for _, behind := range []string{"", "\x00", "\x01", "\x29", "\x80", "\x80\x00", "\x01\x14\x32", "\x01\x14\x32!"} {
			if s := string([]byte{byte(v)}) + behind; !isVersion(uint8(v)) {
				refused(t, s, api.ErrVersion)
			}
		}
	}
}

func TestHowManyEventsAPayloadSaysThatThereAre(t *testing.T) {
	for v := uint8(1); v <= 3; v++ {
		refused(t, string([]byte{v}), api.ErrShort)
		for n := range 300 {
			for _, has := range []int{0, 1, 39, 40, 41, n} {
				s := headed(v, n, strings.Repeat("\x14\x32", has))
				switch {
				case n == 0:
					refused(t, s, api.ErrForm)
				case n > 40:
					refused(t, s, api.ErrTooLarge)
				case n > has:
					refused(t, s, api.ErrShort)
				case n < has:
					refused(t, s, api.ErrForm)
				default:
					decodes(t, s, moves(v, n))
				}
			}
		}
		for _, n := range []uint64{1 << 16, 1 << 32, 1<<32 + 1, 1 << 63, 1<<63 + 1, math.MaxUint64} {
			refused(t, string([]byte{v})+short(n)+"\x14\x32", api.ErrTooLarge)
		}
	}
}

func TestACountInMoreBytesThanItNeeds(t *testing.T) {
	nine := strings.Repeat("\xff", 9)
	for _, bad := range []string{"\x80\x00", "\x81\x00", "\x81\x80\x00", "\xa8\x00", "\xa9\x00", "\xff\x00", nine + "\x00", nine + "\x02", nine + "\x80", nine + "\xff\x01"} {
		for v := uint8(1); v <= 3; v++ {
			refused(t, string([]byte{v})+bad, api.ErrForm)
			refused(t, string([]byte{v})+bad+"\x14\x32", api.ErrForm)
		}
	}
	for _, bad := range []string{"\x80", "\x81\x80", nine, "\xa8"} {
		refused(t, "\x03"+bad, api.ErrShort)
	}
}

func TestTheFirstErrorCounts(t *testing.T) {
	for _, c := range []struct {
		s    string
		want api.Errno
	}{
		{"\x04", api.ErrVersion},
		{"\x00\x80\x00", api.ErrVersion},
		{"\x04\x29", api.ErrVersion},
		{"\x03\x00", api.ErrForm},
		{"\x03\x00!", api.ErrForm},
		{"\x03\x29", api.ErrTooLarge},
		{"\x03\x29\x00", api.ErrTooLarge},
		{"\x03\xa9\x00", api.ErrForm},
		{"\x03\x01", api.ErrShort},
		{"\x03\x01\x00", api.ErrForm},
		{"\x03\x01\x18", api.ErrForm},
		{"\x03\x01\x14", api.ErrShort},
		{"\x03\x01\x14\x00", api.ErrForm},
		{"\x03\x01\x14\x00!", api.ErrForm},
		{"\x03\x01\x14\x32!", api.ErrForm},
		{"\x03\x02\x14\x32", api.ErrShort},
		{"\x03\x02\x14\x32\x00", api.ErrForm},
		{"\x03\x02\x14\x00", api.ErrForm},
		{"\x03\x02\x06\x41\x00", api.ErrTooLarge},
		{"\x03\x02\x06\x41\x05\x14\x00", api.ErrTooLarge},
		{"\x03\x02\x14\x00\x06\x41\x05", api.ErrForm},
		{"\x03\x02\x14\x32\x06\x41\x05", api.ErrTooLarge},
		{"\x03\x02\x14\x32\x06\x41\x05!", api.ErrTooLarge},
		{"\x03\x02\x14\x32\x06\x01\x80\x00", api.ErrForm},
		{"\x03\x02\x14\x32\x06\x01\x05!", api.ErrForm},
		{"\x03\x01\x01\x01\x19", api.ErrTooLarge},
		{"\x03\x01\x01\x01\x02A", api.ErrShort},
		{"\x03\x01\x01\x01\x01A", api.ErrForm},
		{"\x01\x01\x15\x01\x02\x03", api.ErrForm},
		{"\x02\x01\x17\x01\x64", api.ErrForm},
		{"\x01\x01\x0a\x0b", api.ErrTooLarge},
		{"\x03\x01\x0b\x01\x01\x01\x00\x01\x01", api.ErrForm},
		{"\x02\x01\x0b\x01\x01\x01\x02\x01\x01", api.ErrTooLarge},
		// An event stands there without a version of its own: this one is a kind.
		{"\x02\x01\x02\x14\x32", api.ErrForm},
		{"\x03\x01\x03\x14\x32", api.ErrTooLarge},
	} {
		refused(t, c.s, c.want)
	}
}

func TestABadEventAtEachPlace(t *testing.T) {
	for _, c := range []struct {
		bytes string
		want  api.Errno
	}{
		{"\x00", api.ErrForm},
		{"\x18\x01", api.ErrForm},
		{"\x14\x00", api.ErrForm},
		{"\x14\x80\x00", api.ErrForm},
		{"\x06\x41\x05", api.ErrTooLarge},
		{"\x01\x01\x19", api.ErrTooLarge},
		{"\x01\x01\x02a ", api.ErrForm},
	} {
		for i := range 40 {
			s := headed(3, 40, strings.Repeat("\x14\x32", i)+c.bytes+strings.Repeat("\x14\x32", 39-i))
			refused(t, s, c.want)
			refused(t, s+"!", c.want)
		}
	}
}

// P8.2: Newest, Say.

// said are batches, and their payloads written out as they are said from versions
// 1, 2 and 3 on.
var said = []struct {
	l             []api.Event
	one, two, top string
}{
	{moves(3, 1), "\x01\x01\x14\x05", "\x02\x01\x14\x05", "\x03\x01\x14\x32"},
	{[]api.Event{event(3, api.Moved, 55)}, "\x03\x01\x14\x37", "\x03\x01\x14\x37", "\x03\x01\x14\x37"},
	{[]api.Event{event(2, api.Moved, 5)}, "\x01\x01\x14\x05", "\x02\x01\x14\x05", "\x03\x01\x14\x32"},
	{[]api.Event{event(1, api.Moved, 5)}, "\x01\x01\x14\x05", "\x02\x01\x14\x05", "\x03\x01\x14\x32"},
	{[]api.Event{event(3, api.Deposited, 1, 500), event(3, api.Moved, 70)},
		"\x01\x02\x06\x01\x05\x14\x07", "\x02\x02\x06\x01\xf4\x03\x14\x07", "\x03\x02\x06\x01\xf4\x03\x14\x46"},
	{[]api.Event{event(3, api.Deposited, 1, 550), event(3, api.Moved, 70)},
		"\x02\x02\x06\x01\xa6\x04\x14\x07", "\x02\x02\x06\x01\xa6\x04\x14\x07", "\x03\x02\x06\x01\xa6\x04\x14\x46"},
	{[]api.Event{event(3, api.Deposited, 1, 500), event(3, api.Moved, 75)},
		"\x03\x02\x06\x01\xf4\x03\x14\x4b", "\x03\x02\x06\x01\xf4\x03\x14\x4b", "\x03\x02\x06\x01\xf4\x03\x14\x4b"},
	{[]api.Event{event(2, api.Transferred, 1, 2, 100)}, "\x02\x01\x15\x01\x02\x64", "\x02\x01\x15\x01\x02\x64", "\x03\x01\x15\x01\x02\x64"},
	{[]api.Event{event(3, api.Ticked, 1, 100)}, "\x03\x01\x17\x01\x64", "\x03\x01\x17\x01\x64", "\x03\x01\x17\x01\x64"},
	{[]api.Event{event(1, api.English, 4, 1, 2, 6, 7, 5)},
		"\x01\x01\x0e\x04\x01\x02\x06\x07\x05", "\x02\x01\x0e\x04\x01\x02\x06\xbc\x05\x64\x05", "\x03\x01\x0e\x04\x01\x02\x06\xbc\x05\x64\x32"},
	{[]api.Event{{V: 3, Kind: api.Listed, Nums: []int64{1, 100}, Texts: []string{"x"}}, event(3, api.Halted, 1)},
		"\x01\x02\x03\x01\x01x\x04\x01", "\x02\x02\x03\x01\x64\x01x\x04\x01", "\x03\x02\x03\x01\x64\x01x\x04\x01"},
}

func TestSaidWrittenOut(t *testing.T) {
	for _, c := range said {
		is(t, "Say from 1", says(t, c.l, 1), c.one)
		is(t, "Say from 2", says(t, c.l, 2), c.two)
		is(t, "Say from 3", says(t, c.l, 3), c.top)
		is(t, "Newest", lifts(t, encodes(t, c.l)), c.top)
		is(t, "Newest", lifts(t, c.one), c.top)
		is(t, "Newest", lifts(t, c.two), c.top)
		is(t, "Newest", lifts(t, c.top), c.top)
	}
}

func TestSayByTheWords(t *testing.T) {
	from1 := map[uint8]int{}
	for _, l := range batches(82, 500) {
		for v := uint8(1); v <= 3; v++ {
			want := lowest(l, v)
			is(t, "Say", says(t, l, v), spelt(want))
			if v == 1 {
				from1[want[0].V]++
			}
		}
	}
	for v := uint8(1); v <= 3; v++ {
		if from1[v] < 50 {
			t.Errorf("%d batches are said in version %d", from1[v], v)
		}
	}
}

func TestOneEventIsWhatAllAreSaidFor(t *testing.T) {
	// These can be said in version 1, but for one that can't.
	for at, bad := range map[uint8][]api.Event{
		2: {event(3, api.Deposited, 1, 550), event(3, api.Transferred, 1, 2, 100), event(3, api.FeeSet, 25), event(3, api.Traded, 2, 1, 700, 9, 1)},
		3: {event(3, api.Moved, 55), event(3, api.Ticked, 1, 100), event(3, api.Sealed, 5, 7, 3, 9, 1300, 5)},
	} {
		for _, e := range bad {
			for i := range 40 {
				l := instead(moves(3, 40), i, e)
				if s := says(t, l, 1); s[0] != at {
					t.Errorf("Say(%v, 1): % X, not in version %d", l, s, at)
				}
			}
		}
	}
}

func TestNewestByTheWords(t *testing.T) {
	for _, l := range batches(28, 500) {
		is(t, "Newest", lifts(t, spelt(l)), spelt(lifted(l)))
	}
}

func TestSayInAVersionThatThereIsNot(t *testing.T) {
	for _, l := range batches(29, 10) {
		for v := range 256 {
			if isVersion(uint8(v)) {
				continue
			}
			if s, wrong := batch.Say(l, uint8(v)); wrong != api.ErrVersion || s != "" {
				t.Errorf("Say(%v, %d): % X, %d", l, v, s, wrong)
			}
		}
	}
}

// P8.3: back.

func TestABatchIsDecodedAsItIs(t *testing.T) {
	for _, l := range batches(83, 1000) {
		s := encodes(t, l)
		got, wrong := batch.Decode(s)
		if wrong != api.OK || !batch.Same(got, l) || !batch.May(got) {
			t.Errorf("Decode(% X): %v, %d, not %v", s, got, wrong, l)
		}
		is(t, "decoded, encoded", encodes(t, got), s)
	}
}

// altered tells bytes that are nearly those of a batch.
func (d *dice) altered(s string) string {
	i, some := d.below(len(s)+1), string([]byte{byte(d.below(256))})
	part := []string{"", "\x00", "\x01", "\x80", "\x80\x00", "\xff", "\x14\x32", short(d.next() >> d.below(64)), "A", some}[d.below(10)]
	behind := s[min(len(s), i+d.below(3)):]
	switch d.below(6) {
	case 0:
		return s[:i] + part
	case 1:
		return string([]byte{byte(d.below(5))}) + s[min(len(s), 1):]
	case 2:
		return s[:min(len(s), 1)] + short(uint64(d.below(45))) + s[min(len(s), 2):]
	}
	return s[:i] + part + behind
}

func TestWhateverBytesAreRefusedOrJustThoseOfABatch(t *testing.T) {
	d := dice(38)
	ends := map[api.Errno]int{}
	const all = 20000
	for range all {
		v := uint8(1 + d.below(3))
		s := spelt(d.events(v, 1+d.below(40)>>d.below(6)))
		for range 1 + d.below(2) {
			s = d.altered(s)
		}
		l, wrong := slowDecode(s)
		ends[wrong]++
		if wrong != api.OK {
			refused(t, s, wrong)
			continue
		}
		decodes(t, s, l)
		is(t, "decoded, encoded", encodes(t, l), s)
	}
	for _, end := range []api.Errno{api.OK, api.ErrShort, api.ErrVersion, api.ErrTooLarge, api.ErrForm} {
		if ends[end] < all/50 {
			t.Errorf("%d of %d end by %d", ends[end], all, end)
		}
	}
}

func TestTheLongestPayloads(t *testing.T) {
	longest := 0
	for v := uint8(1); v <= 3; v++ {
		for _, kind := range schema.Kinds(v) {
			e := pick(v, kind, high)
			if len(e.Texts) > 0 {
				e.Texts = []string{"abcdefghijklmnopqrstuvwx"}
			}
			var l []api.Event
			for range 40 {
				l = append(l, e)
			}
			s := encodes(t, l)
			decodes(t, s, l)
			// Lifted, and said anew, they have no more than they may.
			longest = max(longest, len(s), len(lifts(t, s)), len(says(t, l, 1)))
		}
	}
	// 40 english ones: a kind, and 6, 1, 1, 3, 8, 8 and 6 bytes.
	if longest != 2+40*34 || longest > api.MaxPayload {
		t.Errorf("%d bytes", longest)
	}
}

func TestAsManyBytesAsAPayloadMayHave(t *testing.T) {
	for _, size := range []int{api.MaxPayload - 1, api.MaxPayload, api.MaxPayload + 1, 1 << 16} {
		for v := uint8(1); v <= 3; v++ {
			full := headed(v, 40, strings.Repeat("\x14\x32", 40))
			for _, fill := range []string{"\x00", "\x14", "\xff"} {
				refused(t, full+strings.Repeat(fill, size-len(full)), api.ErrForm)
			}
			refused(t, string([]byte{v})+strings.Repeat("\xff", size-1), api.ErrForm)
			refused(t, string([]byte{v})+strings.Repeat("\x01", size-1), api.ErrForm)
			refused(t, string([]byte{v})+strings.Repeat("\x29", size-1), api.ErrTooLarge)
		}
		refused(t, strings.Repeat("\x00", size), api.ErrVersion)
	}
}

// P8.4: lifted.

func TestNewestComesToTheEventsLifted(t *testing.T) {
	for _, l := range batches(84, 500) {
		told := lifts(t, encodes(t, l))
		decodes(t, told, lifted(l))
		is(t, "Newest again", lifts(t, told), told)
	}
}

func TestWhatIsSaidComesToTheSameEventsLifted(t *testing.T) {
	for _, l := range batches(48, 500) {
		want := lifts(t, encodes(t, l))
		for v := uint8(1); v <= 3; v++ {
			s := says(t, l, v)
			is(t, "Newest of Say", lifts(t, s), want)
			told, _ := batch.Decode(s)
			is(t, "Say of Say", says(t, told, v), s)
		}
	}
}

func TestABatchLiftedVersionByVersion(t *testing.T) {
	for _, l := range batches(44, 200) {
		top := lifts(t, encodes(t, l))
		for v := l[0].V + 1; v <= 3; v++ {
			up, can := saying(l, v)
			if !can {
				t.Fatalf("%v can't be said in version %d", l, v)
			}
			is(t, "Newest of a lifted one", lifts(t, encodes(t, up)), top)
			is(t, "Say from that version on", says(t, l, v), encodes(t, up))
		}
	}
}

// P8.5: cut short.

func TestAPayloadThatIsCutShort(t *testing.T) {
	for _, l := range batches(85, 60) {
		s := encodes(t, l)
		for n := range len(s) {
			refused(t, s[:n], api.ErrShort)
		}
	}
}

func TestAPayloadWithMoreBehindIt(t *testing.T) {
	for _, l := range batches(58, 20) {
		s := encodes(t, l)
		for n := range 256 {
			refused(t, s+string([]byte{byte(n)}), api.ErrForm)
		}
		refused(t, s+s, api.ErrForm)
		refused(t, s+bare(l[0]), api.ErrForm)
		refused(t, s+strings.Repeat("\x00", 1<<12), api.ErrForm)
	}
}

// P8.6: low.

func TestWhatIsSaidCanNotBeSaidLower(t *testing.T) {
	for _, l := range batches(86, 500) {
		for v := uint8(1); v <= 3; v++ {
			s := says(t, l, v)
			if s[0] < v {
				t.Errorf("Say(%v, %d) is in version %d", l, v, s[0])
			}
			for lesser := v; lesser < s[0]; lesser++ {
				if _, can := saying(l, lesser); can {
					t.Errorf("Say(%v, %d) is in version %d, and can be said in %d", l, v, s[0], lesser)
				}
			}
		}
	}
}

// R1: what is told shares no memory, what is handed in stays.

// spoil writes over all of a list, also what stands behind its lists.
func spoil(l []api.Event) {
	for i := range l {
		nums, texts := l[i].Nums[:cap(l[i].Nums)], l[i].Texts[:cap(l[i].Texts)]
		for k := range nums {
			nums[k] = -7
		}
		for k := range texts {
			texts[k] = "!"
		}
	}
}

func TestWhatIsToldMayBeWrittenOver(t *testing.T) {
	for _, l := range batches(87, 50) {
		s := encodes(t, l)
		first, _ := batch.Decode(s)
		again, _ := batch.Decode(s)
		for i := range first {
			spoil(first[i : i+1])
			if !alike(first[i+1:], l[i+1:]) || !alike(again, l) {
				t.Fatalf("%v: event %d shares its memory", l, i)
			}
		}
		clear(first[:cap(first)])
		if !alike(again, l) {
			t.Errorf("%v: what is told shares its memory", l)
		}
		decodes(t, s, l)
		is(t, "Encode", encodes(t, again), s)
	}
}

func TestWhatIsHandedInStays(t *testing.T) {
	lists := batches(78, 50)
	for _, bad := range mayNot() {
		lists = append(lists, []api.Event{bad}, append(moves(3, 2), bad), append(moves(3, 40), bad))
	}
	for _, l := range lists {
		// There is room behind the list, and behind each event's.
		wide := append(copied(l), event(3, api.Moved, 77))
		for i := range wide {
			wide[i].Nums = append(wide[i].Nums, 99)
			wide[i].Nums = wide[i].Nums[:len(wide[i].Nums)-1]
		}
		given, was := wide[:len(l)], copied(l)
		batch.May(given)
		batch.Encode(given)
		batch.Same(given, was)
		for _, v := range versions {
			batch.Say(given, v)
		}
		if !alike(given, was) || !alike(wide[len(l):], []api.Event{event(3, api.Moved, 77)}) {
			t.Errorf("%v, was %v", wide, was)
		}
		for i := range given {
			if nums := given[i].Nums; nums[:len(nums)+1][len(nums)] != 99 {
				t.Errorf("%v: written behind event %d", was, i)
			}
		}
	}
}

func TestWhatWasEncodedStays(t *testing.T) {
	for _, l := range batches(79, 50) {
		l = copied(l)
		s, low, want := encodes(t, l), says(t, l, 1), strings.Clone(spelt(l))
		lowWant := strings.Clone(spelt(lowest(l, 1)))
		spoil(l)
		clear(l)
		is(t, "Encode", s, want)
		is(t, "Say", low, lowWant)
	}
}

func TestTheSameIsAnsweredAgain(t *testing.T) {
	l := anyBatches(88, 20)
	want := make([]string, len(l))
	for i := range l {
		want[i] = encodes(t, l[i]) + says(t, l[i], 1) + lifts(t, spelt(l[i]))
	}
	batch.Decode("\x03\x02\x14\x32")
	batch.Say(mayNot(), 1)
	for i := range l {
		is(t, "again", encodes(t, l[i])+says(t, l[i], 1)+lifts(t, spelt(l[i])), want[i])
	}
}
