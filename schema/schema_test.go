package schema_test

import (
	"fmt"
	"math"
	"slices"
	"strings"
	"testing"

	"souk/api"
	"souk/schema"
)

// kindTable is the document's table of the kinds of events.
const kindTable = `
1 | opened | a | a | a | name
2 | closed | a | a | a |
3 | listed | i | i k | i k | name
4 | halted | i | i | i |
5 | resumed | i | i | i |
6 | deposited | a m | a m | a m |
7 | withdrawn | a m | a m | a m |
8 | issued | a i q | a i q | a i q |
9 | redeemed | a i q | a i q | a i q |
10 | fee set | b | b | b |
11 | placed | o a i s p q | o a i s p q | o a i s p q |
12 | cancelled | o | o | o |
13 | traded | o o p q | o o p q z | o o p q z |
14 | english | c a i q m t | c a i q m m t | c a i q m m t |
15 | raised | c a m | c a m | c a m |
16 | sealed | c a i q m t | c a i q m t | c a i q m t |
17 | bid | c a m | c a m | c a m |
18 | sold | c a m | c a m z | c a m z |
19 | unsold | c | c | c |
20 | moved | t | t | t |
21 | transferred | | a a m | a a m |
22 | renamed | | | a | name
23 | ticked | | | i k |
`

// commandTable is the document's table of the kinds of commands.
const commandTable = `
1 | open | | name
2 | close | a |
3 | list | k | name
4 | halt | i |
5 | resume | i |
6 | deposit | a m |
7 | withdraw | a m |
8 | issue | a i q |
9 | redeem | a i q |
10 | fee | b |
11 | place | a i s p q |
12 | cancel | a o |
13 | english | a i q m m t |
14 | raise | a c m |
15 | sealed | a i q m t |
16 | bid | a c m |
17 | move | t |
18 | transfer | a a m |
19 | rename | a | name
20 | tick | i k |
`

// columns tells a table's cells, line by line, without blanks around them; the
// first line, which stands for 0, is empty.
func columns(table string) [][]string {
	lines := [][]string{nil}
	for line := range strings.Lines(strings.TrimSpace(table)) {
		cells := strings.Split(line, "|")
		for i := range cells {
			cells[i] = strings.TrimSpace(cells[i])
		}
		lines = append(lines, cells)
	}
	return lines
}

// asked is what an event of a kind and a version has, or what a command asks.
type asked struct {
	v, kind uint8
	called  string
	classes []schema.Class
	text    bool
}

func letters(cell string) []schema.Class {
	var l []schema.Class
	for _, word := range strings.Fields(cell) {
		l = append(l, schema.Class(word[0]))
	}
	return l
}

// kinds are all kinds of all versions, by the document's table.
func kinds() []asked {
	var l []asked
	for kind, cells := range columns(kindTable) {
		for v := 1; kind > 0 && v <= 3; v++ {
			if cells[1+v] != "" {
				l = append(l, asked{uint8(v), uint8(kind), cells[1], letters(cells[1+v]), cells[5] == "name"})
			}
		}
	}
	return l
}

// orders are all kinds of commands, by the document's table.
func orders() []asked {
	var l []asked
	for kind, cells := range columns(commandTable) {
		if kind > 0 {
			l = append(l, asked{3, uint8(kind), cells[1], letters(cells[2]), cells[3] == "name"})
		}
	}
	return l
}

// find tells the one of a kind and a version.
func find(l []asked, v, kind uint8) (asked, bool) {
	i := slices.IndexFunc(l, func(a asked) bool { return a.v == v && a.kind == kind })
	if i < 0 {
		return asked{}, false
	}
	return l[i], true
}

// span is the numbers from low to high.
type span struct{ low, high int64 }

// spans are the bounds of all classes in a version, in digits. The greatest
// tick of version 1 is the exception: no kind of that version has one, and the
// document can be read either way (as in hundreds, or as none of m, z, p).
func spans(v uint8) map[schema.Class]span {
	switch v {
	case 1:
		return map[schema.Class]span{
			'a': {1, 64}, 'i': {1, 16}, 'o': {1, 1099511627776}, 'c': {1, 1099511627776},
			'm': {1, 11258999068426}, 'z': {0, 11258999068426}, 'p': {1, 10737418},
			'q': {1, 1048576}, 's': {0, 1}, 'b': {0, 10}, 't': {1, 109951162777},
		}
	case 2:
		return map[schema.Class]span{
			'a': {1, 64}, 'i': {1, 16}, 'o': {1, 1099511627776}, 'c': {1, 1099511627776},
			'm': {1, 1125899906842624}, 'z': {0, 1125899906842624}, 'p': {1, 1073741824}, 'k': {1, 1073741824},
			'q': {1, 1048576}, 's': {0, 1}, 'b': {0, 1000}, 't': {1, 109951162777},
		}
	case 3:
		return map[schema.Class]span{
			'a': {1, 64}, 'i': {1, 16}, 'o': {1, 1099511627776}, 'c': {1, 1099511627776},
			'm': {1, 1125899906842624}, 'z': {0, 1125899906842624}, 'p': {1, 1073741824}, 'k': {1, 1073741824},
			'q': {1, 1048576}, 's': {1, 2}, 'b': {0, 1000}, 't': {1, 1099511627776},
		}
	}
	return nil
}

func bytes() []uint8 {
	var l []uint8
	for n := range 256 {
		l = append(l, uint8(n))
	}
	return l
}

// around are numbers at the ends of a span, beside them, and far off.
func around(s span) []int64 {
	l := []int64{math.MinInt64, math.MinInt64 + 1, math.MaxInt64 - 1, math.MaxInt64, math.MinInt32, math.MaxInt32}
	for n := int64(-2); n <= 2; n++ {
		l = append(l, n, s.low+n, s.high+n, s.low+n<<32, s.high+n<<32)
	}
	return append(l, -s.low, -s.high, s.low+(s.high-s.low)/2, 10*s.high, 100*s.high)
}

// at tells numbers for a kind: of each class the one that is picked.
func (a asked) at(pick func(s span) int64) []int64 {
	var l []int64
	for _, c := range a.classes {
		l = append(l, pick(spans(a.v)[c]))
	}
	return l
}

func low(s span) int64  { return s.low }
func high(s span) int64 { return s.high }

// sets are numbers that fit a kind.
func (a asked) sets() [][]int64 {
	// Behind the lowest ones and the highest ones all are of unlike parts.
	n := int64(0)
	mixed := a.at(func(s span) int64 { n++; return s.low + n%(s.high-s.low+1) })
	return [][]int64{a.at(low), a.at(high), mixed}
}

// name is a text that fits a kind.
func (a asked) name() string {
	if a.text {
		return "a-b_9"
	}
	return ""
}

func (a asked) event(nums []int64) api.Event {
	e := api.Event{V: a.v, Kind: a.kind, Nums: nums}
	if a.text {
		e.Texts = []string{a.name()}
	}
	return e
}

func (a asked) command(nums []int64) api.Command {
	return api.Command{Kind: a.kind, Nums: nums, Text: a.name()}
}

// with tells nums with another number in the place of one.
func with(nums []int64, i int, n int64) []int64 {
	l := slices.Clone(nums)
	l[i] = n
	return l
}

// notAsMany are numbers that are too few, or too many.
func notAsMany(nums []int64) [][]int64 {
	more := slices.Concat(nums, []int64{1})
	l := [][]int64{more, slices.Concat(nums, nums, []int64{1}), slices.Concat([]int64{1}, nums), slices.Concat(nums, []int64{0}), make([]int64, 1000)}
	if len(nums) > 0 {
		l = append(l, nil, []int64{}, nums[1:], nums[:len(nums)-1])
	}
	return l
}

// names are texts that are names, notNames are none.
func names() []string {
	return []string{"a", "z", "0", "9", "-", "_", "a-b_9", "ann", "--", "0x", strings.Repeat("a", 23), strings.Repeat("z", 24), "abcdefghijklmnopqrstuvwx", "yz0123456789-_yz01234567"}
}

func notNames() []string {
	l := []string{"", "A", "a b", " a", "a ", "a\n", "a.b", "Ann", "\u00e9", "a\u0301", "\xff", "a\x80", "\xef\xbf\xbd", "\u212a", "\uff41"}
	l = append(l, strings.Repeat("a", 25), strings.Repeat("a", 26), strings.Repeat("a", 280), strings.Repeat("a", 1<<16+1))
	// As many letters as there may be, and more bytes; and no more bytes either.
	return append(l, strings.Repeat("\u00e9", 24), strings.Repeat("\u00e9", 12))
}

// mayBe says what is wrong with whether an event may be.
func mayBe(t *testing.T, e api.Event, want bool) {
	t.Helper()
	if schema.May(e) != want {
		t.Errorf("May(%+v): not %v", e, want)
	}
}

// mayBeAsked says what is wrong with whether a command may be.
func mayBeAsked(t *testing.T, c api.Command, want bool) {
	t.Helper()
	if schema.MayCommand(c) != want {
		t.Errorf("MayCommand(%+v): not %v", c, want)
	}
}

// same says what is wrong with whether events are the same, asked either way.
func same(t *testing.T, a, b api.Event, want bool) {
	t.Helper()
	if schema.Same(a, b) != want || schema.Same(b, a) != want {
		t.Errorf("Same(%+v, %+v): not %v", a, b, want)
	}
}

// P5.1: Fields, Kinds, Bound, Fits, Name, Kind.

func TestTheClassesAreTheirLetters(t *testing.T) {
	l := []schema.Class{schema.Acct, schema.Inst, schema.Order, schema.Auction, schema.Money, schema.Some, schema.Price, schema.Tick, schema.Qty, schema.Side, schema.Part, schema.Time}
	if !slices.Equal(l, letters("a i o c m z p k q s b t")) {
		t.Error(l)
	}
}

func TestFieldsAreThoseOfTheTable(t *testing.T) {
	table := kinds()
	for _, v := range bytes() {
		for _, kind := range bytes() {
			want, there := find(table, v, kind)
			l, text, is := schema.Fields(v, kind)
			if !slices.Equal(l, want.classes) || text != want.text || is != there {
				t.Errorf("Fields(%d, %d): %q, %v, %v, not %q, %v, %v", v, kind, l, text, is, want.classes, want.text, there)
			}
		}
	}
}

func TestFieldsOfTheExamples(t *testing.T) {
	for _, c := range []struct {
		v, kind uint8
		want    string
	}{
		{1, api.Traded, "o o p q"},
		{2, api.Traded, "o o p q z"},
		{1, api.Ticked, ""},
	} {
		if l, text, is := schema.Fields(c.v, c.kind); !slices.Equal(l, letters(c.want)) || text || is != (c.want != "") {
			t.Errorf("Fields(%d, %d): %q, %v, %v", c.v, c.kind, l, text, is)
		}
	}
}

func TestKindsAreThoseOfTheTable(t *testing.T) {
	for _, v := range bytes() {
		var want []uint8
		for _, a := range kinds() {
			if a.v == v {
				want = append(want, a.kind)
			}
		}
		if got := schema.Kinds(v); !slices.Equal(got, want) {
			t.Errorf("Kinds(%d): %v, not %v", v, got, want)
		}
	}
}

func TestKindsRiseAndAreThoseThatHaveFields(t *testing.T) {
	for _, v := range bytes() {
		l := schema.Kinds(v)
		if !slices.IsSorted(l) || len(slices.Compact(slices.Clone(l))) != len(l) {
			t.Errorf("Kinds(%d): %v", v, l)
		}
		for _, kind := range bytes() {
			if _, _, is := schema.Fields(v, kind); is != slices.Contains(l, kind) {
				t.Errorf("Fields(%d, %d): %v, Kinds: %v", v, kind, is, l)
			}
		}
	}
}

func TestBoundsAreThoseOfTheDocument(t *testing.T) {
	for _, v := range bytes() {
		for _, c := range bytes() {
			if v == 1 && c == 'k' {
				continue
			}
			want, there := spans(v)[schema.Class(c)]
			low, high, is := schema.Bound(v, schema.Class(c))
			if low != want.low || high != want.high || is != there {
				t.Errorf("Bound(%d, %q): %d, %d, %v, not %d, %d, %v", v, c, low, high, is, want.low, want.high, there)
			}
		}
	}
}

func TestBoundsFollowFromTheLimits(t *testing.T) {
	for _, c := range []struct {
		v    uint8
		c    schema.Class
		want span
	}{
		{3, schema.Acct, span{1, api.MaxAccts}},
		{3, schema.Inst, span{1, api.MaxInsts}},
		{3, schema.Order, span{1, api.MaxCount}},
		{3, schema.Auction, span{1, api.MaxCount}},
		{3, schema.Money, span{1, api.MaxAmount}},
		{1, schema.Money, span{1, api.MaxAmount / 100}},
		{3, schema.Some, span{0, api.MaxAmount}},
		{1, schema.Some, span{0, api.MaxAmount / 100}},
		{3, schema.Price, span{1, api.MaxPrice}},
		{1, schema.Price, span{1, api.MaxPrice / 100}},
		{3, schema.Tick, span{1, api.MaxPrice}},
		{3, schema.Qty, span{1, api.MaxQty}},
		{3, schema.Side, span{int64(api.Buy), int64(api.Sell)}},
		{3, schema.Time, span{1, api.MaxClock}},
		{2, schema.Time, span{1, api.MaxClock / 10}},
	} {
		if low, high, is := schema.Bound(c.v, c.c); low != c.want.low || high != c.want.high || !is {
			t.Errorf("Bound(%d, %q): %d, %d, %v", c.v, c.c, low, high, is)
		}
	}
}

func TestTicksOfVersion1HaveBounds(t *testing.T) {
	low, high, is := schema.Bound(1, schema.Tick)
	if low != 1 || high != api.MaxPrice && high != api.MaxPrice/100 || !is {
		t.Error(low, high, is)
	}
}

func TestFitsIsWithinTheBounds(t *testing.T) {
	for _, v := range bytes() {
		for _, c := range bytes() {
			class := schema.Class(c)
			low, high, is := schema.Bound(v, class)
			for _, n := range around(span{low, high}) {
				if want := is && !(n < low) && !(n > high); schema.Fits(v, class, n) != want {
					t.Errorf("Fits(%d, %q, %d): not %v", v, c, n, want)
				}
			}
		}
	}
}

func TestFitsAtTheEnds(t *testing.T) {
	for _, c := range []struct {
		v    uint8
		c    schema.Class
		n    int64
		want bool
	}{
		{3, schema.Acct, 0, false}, {3, schema.Acct, 1, true}, {3, schema.Acct, 64, true}, {3, schema.Acct, 65, false},
		{3, schema.Some, -1, false}, {3, schema.Some, 0, true}, {3, schema.Some, 1 << 50, true}, {3, schema.Some, 1<<50 + 1, false},
		{1, schema.Side, -1, false}, {1, schema.Side, 0, true}, {1, schema.Side, 1, true}, {1, schema.Side, 2, false},
		{2, schema.Side, -1, false}, {2, schema.Side, 0, true}, {2, schema.Side, 1, true}, {2, schema.Side, 2, false},
		{3, schema.Side, 0, false}, {3, schema.Side, 1, true}, {3, schema.Side, 2, true}, {3, schema.Side, 3, false},
		{1, schema.Part, -1, false}, {1, schema.Part, 0, true}, {1, schema.Part, 10, true}, {1, schema.Part, 11, false},
		{2, schema.Part, 1000, true}, {2, schema.Part, 1001, false}, {3, schema.Part, 0, true}, {3, schema.Part, 1001, false},
		{2, schema.Time, 109951162777, true}, {2, schema.Time, 109951162778, false}, {3, schema.Time, 109951162778, true},
		{1, schema.Money, 11258999068426, true}, {1, schema.Money, 11258999068427, false}, {2, schema.Money, 11258999068427, true},
		{0, schema.Acct, 1, false}, {4, schema.Acct, 1, false}, {255, schema.Acct, 1, false}, {3, 'A', 1, false}, {3, 0, 0, false},
	} {
		if schema.Fits(c.v, c.c, c.n) != c.want {
			t.Errorf("Fits(%d, %q, %d): not %v", c.v, c.c, c.n, c.want)
		}
	}
}

func TestNamesAreThoseOfTheTable(t *testing.T) {
	table := columns(kindTable)
	for _, kind := range bytes() {
		want := ""
		if kind > 0 && int(kind) < len(table) {
			want = table[kind][1]
		}
		if got := schema.Name(kind); got != want {
			t.Errorf("Name(%d): %q, not %q", kind, got, want)
		}
	}
	if got := schema.Name(10); got != "fee set" {
		t.Error(got)
	}
}

func TestKindIsWhatIsCalledSo(t *testing.T) {
	for kind, cells := range columns(kindTable) {
		if kind == 0 {
			continue
		}
		if got, is := schema.Kind(cells[1]); int(got) != kind || !is {
			t.Errorf("Kind(%q): %d, %v, not %d", cells[1], got, is, kind)
		}
	}
	for _, name := range []string{"", " ", "Opened", "opened ", " opened", "open", "openedd", "fee", "set", "fee  set", "feeset", "fee_set", "FeeSet", "bidtaken", "name", "kind", "0", "1", "opened closed", "\x00", "sol", "uns", "moved\n", strings.Repeat("opened", 1000)} {
		if got, is := schema.Kind(name); got != 0 || is {
			t.Errorf("Kind(%q): %d, %v", name, got, is)
		}
	}
	for _, a := range orders() {
		// Of the commands' words just these are kinds' names, too.
		if _, is := schema.Kind(a.called); is != slices.Contains([]string{"english", "sealed", "bid"}, a.called) {
			t.Errorf("Kind(%q): %v", a.called, is)
		}
	}
}

// P5.2: May, MayName, Same.

func TestEventsOfTheTableMayBe(t *testing.T) {
	for _, a := range kinds() {
		for _, nums := range a.sets() {
			mayBe(t, a.event(nums), true)
		}
	}
}

func TestEventsOfTheExamples(t *testing.T) {
	mayBe(t, api.Event{V: 3, Kind: api.Deposited, Nums: []int64{64, 1}}, true)
	mayBe(t, api.Event{V: 3, Kind: api.Deposited, Nums: []int64{65, 1}}, false)
	mayBe(t, api.Event{V: 3, Kind: api.Deposited, Nums: []int64{64, 0}}, false)
	mayBe(t, api.Event{V: 1, Kind: api.English, Nums: []int64{4, 1, 2, 6, 7, 5}}, true)
	mayBe(t, api.Event{V: 2, Kind: api.English, Nums: []int64{4, 1, 2, 6, 700, 100, 5}}, true)
	mayBe(t, api.Event{V: 3, Kind: api.English, Nums: []int64{4, 1, 2, 6, 700, 100, 50}}, true)
	mayBe(t, api.Event{V: 1, Kind: api.English, Nums: []int64{4, 1, 2, 6, 700, 100, 5}}, false)
}

func TestEventsOfNoVersionAndNoKindMayNotBe(t *testing.T) {
	table := kinds()
	mayBe(t, api.Event{}, false)
	for _, a := range table {
		e := a.event(a.at(low))
		for _, v := range bytes() {
			if _, there := find(table, v, e.Kind); !there {
				e.V = v
				mayBe(t, e, false)
			}
		}
		e.V = a.v
		for _, kind := range bytes() {
			if _, there := find(table, e.V, kind); !there {
				e.Kind = kind
				mayBe(t, e, false)
			}
		}
	}
	for _, v := range bytes() {
		for _, kind := range bytes() {
			mayBe(t, api.Event{V: v, Kind: kind}, false)
			mayBe(t, api.Event{V: v, Kind: kind, Texts: []string{"ann"}}, false)
			if _, there := find(table, v, kind); !there {
				mayBe(t, api.Event{V: v, Kind: kind, Nums: []int64{1}}, false)
				mayBe(t, api.Event{V: v, Kind: kind, Nums: []int64{1}, Texts: []string{"ann"}}, false)
			}
		}
	}
}

func TestNamesAreMadeOfTheseBytes(t *testing.T) {
	const may = "abcdefghijklmnopqrstuvwxyz0123456789-_"
	for _, c := range bytes() {
		one := string([]byte{c})
		for _, s := range []string{one, one + "a", "a" + one, "a" + one + "a", strings.Repeat(one, 24), strings.Repeat("a", 23) + one} {
			if want := strings.Contains(may, one); schema.MayName(s) != want {
				t.Errorf("MayName(%q): not %v", s, want)
			}
		}
		if schema.MayName(strings.Repeat(one, 25)) || schema.MayName(strings.Repeat("a", 24)+one) {
			t.Errorf("25 bytes with %q are a name", one)
		}
	}
	for _, s := range names() {
		if !schema.MayName(s) {
			t.Errorf("MayName(%q): no", s)
		}
	}
	for _, s := range notNames() {
		if schema.MayName(s) {
			t.Errorf("MayName(%q): yes", s)
		}
	}
}

func TestNamesHaveSoManyBytes(t *testing.T) {
	for n := range 100 {
		if want := n >= 1 && n <= api.MaxText; schema.MayName(strings.Repeat("x", n)) != want {
			t.Errorf("MayName of %d bytes: not %v", n, want)
		}
	}
}

func TestEventsHaveANameOrNoText(t *testing.T) {
	for _, a := range kinds() {
		e := a.event(a.at(high))
		for _, s := range names() {
			e.Texts = []string{s}
			mayBe(t, e, a.text)
			e.Texts = []string{s, s}
			mayBe(t, e, false)
			e.Texts = []string{s, ""}
			mayBe(t, e, false)
			e.Texts = []string{"", s}
			mayBe(t, e, false)
		}
		for _, s := range notNames() {
			e.Texts = []string{s}
			mayBe(t, e, false)
		}
		e.Texts = nil
		mayBe(t, e, !a.text)
		e.Texts = []string{}
		mayBe(t, e, !a.text)
	}
}

func TestSameAsksForAllOfAnEvent(t *testing.T) {
	e := api.Event{V: 3, Kind: 8, Nums: []int64{1, 2, 3}, Texts: []string{"a", "b"}}
	same(t, e, api.Event{V: 3, Kind: 8, Nums: []int64{1, 2, 3}, Texts: []string{"a", "b"}}, true)
	for _, other := range []api.Event{
		{V: 2, Kind: 8, Nums: []int64{1, 2, 3}, Texts: []string{"a", "b"}},
		{V: 3, Kind: 9, Nums: []int64{1, 2, 3}, Texts: []string{"a", "b"}},
		{V: 8, Kind: 3, Nums: []int64{1, 2, 3}, Texts: []string{"a", "b"}},
		{V: 3, Kind: 8, Nums: []int64{0, 2, 3}, Texts: []string{"a", "b"}},
		{V: 3, Kind: 8, Nums: []int64{1, 2, 4}, Texts: []string{"a", "b"}},
		{V: 3, Kind: 8, Nums: []int64{3, 2, 1}, Texts: []string{"a", "b"}},
		{V: 3, Kind: 8, Nums: []int64{1, 2}, Texts: []string{"a", "b"}},
		{V: 3, Kind: 8, Nums: []int64{1, 2, 3, 0}, Texts: []string{"a", "b"}},
		{V: 3, Kind: 8, Nums: []int64{1 + 1<<32, 2, 3}, Texts: []string{"a", "b"}},
		{V: 3, Kind: 8, Texts: []string{"a", "b"}},
		{V: 3, Kind: 8, Nums: []int64{1, 2, 3}, Texts: []string{"a", "c"}},
		{V: 3, Kind: 8, Nums: []int64{1, 2, 3}, Texts: []string{"b", "a"}},
		{V: 3, Kind: 8, Nums: []int64{1, 2, 3}, Texts: []string{"a"}},
		{V: 3, Kind: 8, Nums: []int64{1, 2, 3}, Texts: []string{"a", "b", ""}},
		{V: 3, Kind: 8, Nums: []int64{1, 2, 3}, Texts: []string{"ab"}},
		{V: 3, Kind: 8, Nums: []int64{1, 2, 3}, Texts: []string{"ab", ""}},
		{V: 3, Kind: 8, Nums: []int64{1, 2, 3}, Texts: []string{"A", "b"}},
		{V: 3, Kind: 8, Nums: []int64{1, 2, 3}},
		{},
	} {
		same(t, e, other, false)
		same(t, other, other, true)
	}
}

func TestNothingAndNoListAreTheSame(t *testing.T) {
	e := api.Event{V: 3, Kind: 8}
	same(t, e, api.Event{V: 3, Kind: 8, Nums: []int64{}, Texts: []string{}}, true)
	same(t, e, api.Event{V: 3, Kind: 8, Nums: []int64{0}}, false)
	same(t, e, api.Event{V: 3, Kind: 8, Texts: []string{""}}, false)
	same(t, api.Event{}, api.Event{Nums: []int64{}, Texts: []string{}}, true)
}

// P5.3: Command, MayCommand, Word, Worded.

func TestCommandsAreThoseOfTheTable(t *testing.T) {
	for _, kind := range bytes() {
		want, there := find(orders(), 3, kind)
		l, text, is := schema.Command(kind)
		if !slices.Equal(l, want.classes) || text != want.text || is != there {
			t.Errorf("Command(%d): %q, %v, %v, not %q, %v, %v", kind, l, text, is, want.classes, want.text, there)
		}
		if got := schema.Word(kind); got != want.called {
			t.Errorf("Word(%d): %q, not %q", kind, got, want.called)
		}
	}
	if l, _, _ := schema.Command(11); !slices.Equal(l, []schema.Class{'a', 'i', 's', 'p', 'q'}) || schema.Word(11) != "place" {
		t.Errorf("%q, %q", l, schema.Word(11))
	}
}

func TestWordedIsWhatIsCalledSo(t *testing.T) {
	for _, a := range orders() {
		if got, is := schema.Worded(a.called); got != a.kind || !is {
			t.Errorf("Worded(%q): %d, %v, not %d", a.called, got, is, a.kind)
		}
	}
	for _, word := range []string{"", " ", "Open", "open ", " open", "ope", "opens", "opened", "PLACE", "fee set", "COpen", "name", "0", "1", "ask", "sync", "\x00", "move\n", strings.Repeat("open", 1000)} {
		if got, is := schema.Worded(word); got != 0 || is {
			t.Errorf("Worded(%q): %d, %v", word, got, is)
		}
	}
}

func TestCommandsOfTheTableMayBe(t *testing.T) {
	for _, a := range orders() {
		for _, nums := range a.sets() {
			mayBeAsked(t, a.command(nums), true)
		}
	}
	mayBeAsked(t, api.Command{Kind: api.COpen, Nums: []int64{}, Text: "ann"}, true)
}

func TestCommandsAreWithinTheNewestBounds(t *testing.T) {
	for _, c := range []struct {
		c    api.Command
		want bool
	}{
		{api.Command{Kind: api.CFee, Nums: []int64{1000}}, true},
		{api.Command{Kind: api.CFee, Nums: []int64{1001}}, false},
		{api.Command{Kind: api.CMove, Nums: []int64{1 << 40}}, true},
		{api.Command{Kind: api.CMove, Nums: []int64{1<<40 + 1}}, false},
		{api.Command{Kind: api.CDeposit, Nums: []int64{64, 1 << 50}}, true},
		{api.Command{Kind: api.CDeposit, Nums: []int64{64, 1<<50 + 1}}, false},
		{api.Command{Kind: api.CPlace, Nums: []int64{1, 1, 2, 1, 1}}, true},
		{api.Command{Kind: api.CPlace, Nums: []int64{1, 1, 0, 1, 1}}, false},
	} {
		mayBeAsked(t, c.c, c.want)
	}
}

func TestCommandsOfNoKindMayNotBe(t *testing.T) {
	for _, kind := range bytes() {
		if _, there := find(orders(), 3, kind); there {
			continue
		}
		for _, nums := range [][]int64{nil, {}, {1}, {1, 1}, {1, 1, 1}} {
			mayBeAsked(t, api.Command{Kind: kind, Nums: nums}, false)
			mayBeAsked(t, api.Command{Kind: kind, Nums: nums, Text: "ann"}, false)
		}
	}
}

func TestCommandsHaveANameOrNoText(t *testing.T) {
	for _, a := range orders() {
		c := a.command(a.at(high))
		for _, s := range names() {
			c.Text = s
			mayBeAsked(t, c, a.text)
		}
		for _, s := range notNames() {
			c.Text = s
			mayBeAsked(t, c, s == "" && !a.text)
		}
	}
}

// P5.4: more and more.

// among tells whether the classes of l stand in more, in their row.
func among(l, more []schema.Class) bool {
	for _, c := range more {
		if len(l) > 0 && l[0] == c {
			l = l[1:]
		}
	}
	return len(l) == 0
}

func TestAKindIsOneOfTheNextVersion(t *testing.T) {
	for v := uint8(1); v < 3; v++ {
		for _, kind := range schema.Kinds(v) {
			l, text, _ := schema.Fields(v, kind)
			more, next, is := schema.Fields(v+1, kind)
			if !is || text != next || !among(l, more) || !slices.Contains(schema.Kinds(v+1), kind) {
				t.Errorf("%d in %d: %q, %v, then %q, %v, %v", kind, v, l, text, more, next, is)
			}
		}
	}
}

func TestVersionsHaveMoreAndMoreKinds(t *testing.T) {
	var l []int
	for v := range uint8(6) {
		l = append(l, len(schema.Kinds(v)))
	}
	if !slices.Equal(l, []int{0, 20, 21, 23, 0, 0}) {
		t.Error(l)
	}
}

// P5.5: called.

func TestNoTwoAreCalledAlike(t *testing.T) {
	kindOf, commandOf := map[string]uint8{}, map[string]uint8{}
	for _, kind := range bytes() {
		if name := schema.Name(kind); name != "" {
			if other, is := kindOf[name]; is {
				t.Errorf("%d and %d are %q", other, kind, name)
			}
			kindOf[name] = kind
		}
		if word := schema.Word(kind); word != "" {
			if other, is := commandOf[word]; is {
				t.Errorf("%d and %d are %q", other, kind, word)
			}
			commandOf[word] = kind
		}
	}
	if len(kindOf) != 23 || len(commandOf) != 20 {
		t.Error(len(kindOf), len(commandOf))
	}
}

func TestKindOfNameIsIt(t *testing.T) {
	for _, kind := range bytes() {
		_, _, want := schema.Fields(3, kind)
		if got, is := schema.Kind(schema.Name(kind)); is != want || is && got != kind || !is && got != 0 {
			t.Errorf("Kind of Name of %d: %d, %v", kind, got, is)
		}
		_, _, want = schema.Command(kind)
		if got, is := schema.Worded(schema.Word(kind)); is != want || is && got != kind || !is && got != 0 {
			t.Errorf("Worded of Word of %d: %d, %v", kind, got, is)
		}
	}
}

// P5.6: just the bounds.

func TestAnotherNumberMayBeIfItFits(t *testing.T) {
	for _, a := range kinds() {
		for _, nums := range a.sets() {
			for i, c := range a.classes {
				s := spans(a.v)[c]
				for _, n := range around(s) {
					fits := s.low <= n && n <= s.high
					mayBe(t, a.event(with(nums, i, n)), fits)
					if schema.Fits(a.v, c, n) != fits {
						t.Errorf("Fits(%d, %q, %d): not %v", a.v, c, n, fits)
					}
				}
			}
		}
	}
}

func TestMoreOrFewerInAnEventMayNotBe(t *testing.T) {
	for _, a := range kinds() {
		for _, nums := range a.sets() {
			for _, l := range notAsMany(nums) {
				mayBe(t, a.event(l), false)
			}
			e := a.event(nums)
			e.Texts = append(e.Texts, "ann")
			mayBe(t, e, false)
			e.Texts = append(e.Texts, "bob")
			mayBe(t, e, false)
			if a.text {
				e.Texts = nil
				mayBe(t, e, false)
			}
		}
	}
}

// P5.7: likewise commands.

func TestAnotherNumberMayBeAskedIfItFits(t *testing.T) {
	for _, a := range orders() {
		for _, nums := range a.sets() {
			for i, c := range a.classes {
				s := spans(3)[c]
				for _, n := range around(s) {
					mayBeAsked(t, a.command(with(nums, i, n)), s.low <= n && n <= s.high)
				}
			}
		}
	}
}

func TestMoreOrFewerInACommandMayNotBe(t *testing.T) {
	for _, a := range orders() {
		for _, nums := range a.sets() {
			for _, l := range notAsMany(nums) {
				mayBeAsked(t, a.command(l), false)
			}
			c := a.command(nums)
			if c.Text == "" {
				c.Text = "ann"
			} else {
				c.Text = ""
			}
			mayBeAsked(t, c, false)
		}
	}
}

// P5.8: the same.

// samples are events that may be, and some that may not.
func samples() []api.Event {
	l := []api.Event{{}, {V: 3}, {Kind: 3}, {V: 4, Kind: 1, Nums: []int64{1}}, {V: 3, Kind: 255, Texts: []string{"", ""}}}
	for _, a := range kinds() {
		for _, nums := range a.sets() {
			e := a.event(nums)
			l = append(l, e)
			e.Texts = append(slices.Clone(e.Texts), "B")
			l = append(l, e)
		}
	}
	return l
}

// others are events of which each has another thing in the place of one of e's.
func others(e api.Event) []api.Event {
	var l []api.Event
	for _, n := range bytes() {
		v, kind := e, e
		v.V, kind.Kind = e.V+n, e.Kind+n
		if n > 0 {
			l = append(l, v, kind)
		}
	}
	for i, n := range e.Nums {
		for _, other := range []int64{n + 1, n - 1, ^n, n + 1<<32} {
			o := e
			o.Nums = with(e.Nums, i, other)
			l = append(l, o)
		}
		o := e
		o.Nums = slices.Delete(slices.Clone(e.Nums), i, i+1)
		l = append(l, o)
	}
	for i, s := range e.Texts {
		for _, other := range []string{s + "a", s + "\x00", s + " ", strings.ToUpper(s) + "A"} {
			o := e
			o.Texts = slices.Clone(e.Texts)
			o.Texts[i] = other
			l = append(l, o)
		}
	}
	more, text := e, e
	more.Nums = slices.Concat(e.Nums, []int64{0})
	text.Texts = slices.Concat(e.Texts, []string{""})
	return append(l, more, text)
}

func TestEventsAreTheSameAsThemselves(t *testing.T) {
	for _, e := range samples() {
		same(t, e, e, true)
		copied := e
		copied.Nums, copied.Texts = slices.Clone(e.Nums), slices.Clone(e.Texts)
		same(t, e, copied, true)
		if schema.May(e) != schema.May(copied) {
			t.Errorf("May(%+v), and not of the same", e)
		}
	}
}

func TestWhateverIsAnotherOneIsNotTheSame(t *testing.T) {
	for _, e := range samples() {
		for _, other := range others(e) {
			same(t, e, other, false)
		}
	}
}

func TestUnlikeEventsAreNotTheSame(t *testing.T) {
	l := samples()
	for _, a := range l {
		for _, b := range l {
			// Their texts, with all quoted, tell them apart.
			same(t, a, b, fmt.Sprintf("%d %d %d %q", a.V, a.Kind, a.Nums, a.Texts) == fmt.Sprintf("%d %d %d %q", b.V, b.Kind, b.Nums, b.Texts))
		}
	}
}

// R1: what is told shares no memory, what is handed in stays.

func TestWhatIsToldMayBeWrittenOver(t *testing.T) {
	for _, a := range kinds() {
		l, _, _ := schema.Fields(a.v, a.kind)
		again, _, _ := schema.Fields(a.v, a.kind)
		overwrite(l)
		third, _, _ := schema.Fields(a.v, a.kind)
		if !slices.Equal(again, a.classes) || !slices.Equal(third, a.classes) {
			t.Errorf("Fields(%d, %d): %q, %q, not %q", a.v, a.kind, again, third, a.classes)
		}
	}
	for _, a := range orders() {
		l, _, _ := schema.Command(a.kind)
		again, _, _ := schema.Command(a.kind)
		overwrite(l)
		third, _, _ := schema.Command(a.kind)
		if !slices.Equal(again, a.classes) || !slices.Equal(third, a.classes) {
			t.Errorf("Command(%d): %q, %q, not %q", a.kind, again, third, a.classes)
		}
	}
	for v := range uint8(5) {
		l, again := schema.Kinds(v), schema.Kinds(v)
		want := slices.Clone(l)
		overwrite(l)
		if third := schema.Kinds(v); !slices.Equal(again, want) || !slices.Equal(third, want) {
			t.Errorf("Kinds(%d): %v, %v, not %v", v, again, third, want)
		}
	}
}

// overwrite writes over a list, and over what there is room for behind it.
func overwrite[T ~uint8](l []T) {
	l = l[:cap(l)]
	for i := range l {
		l[i] = '!'
	}
}

func TestWhatIsHandedInStays(t *testing.T) {
	for _, e := range samples() {
		nums, texts := slices.Clone(e.Nums), slices.Clone(e.Texts)
		schema.May(e)
		schema.Same(e, e)
		schema.MayCommand(api.Command{Kind: e.Kind, Nums: e.Nums, Text: strings.Join(e.Texts, "")})
		if !slices.Equal(e.Nums, nums) || !slices.Equal(e.Texts, texts) {
			t.Errorf("%+v: was %v, %q", e, nums, texts)
		}
	}
}
