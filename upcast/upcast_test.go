package upcast_test

import (
	"fmt"
	"math"
	"slices"
	"strconv"
	"strings"
	"testing"

	"souk/api"
	"souk/schema"
	"souk/upcast"
)

// ruleTable is how each kind goes from version 1 to 2, and from 2 to 3, by the
// words of the document: of each field which one of the former version it is,
// times what, plus what; or what it is where the former version has not such a
// field. Where there is - the former version has no such kind.
const ruleTable = `
1 opened | 0 | 0
2 closed | 0 | 0
3 listed | 0 =100 | 0 1
4 halted | 0 | 0
5 resumed | 0 | 0
6 deposited | 0 1*100 | 0 1
7 withdrawn | 0 1*100 | 0 1
8 issued | 0 1 2 | 0 1 2
9 redeemed | 0 1 2 | 0 1 2
10 fee set | 0*100 | 0
11 placed | 0 1 2 3 4*100 5 | 0 1 2 3+1 4 5
12 cancelled | 0 | 0
13 traded | 0 1 2*100 3 =0 | 0 1 2 3 4
14 english | 0 1 2 3 4*100 =100 5 | 0 1 2 3 4 5 6*10
15 raised | 0 1 2*100 | 0 1 2
16 sealed | 0 1 2 3 4*100 5 | 0 1 2 3 4 5*10
17 bid | 0 1 2*100 | 0 1 2
18 sold | 0 1 2*100 =0 | 0 1 2 3
19 unsold | 0 | 0
20 moved | 0 | 0*10
21 transferred | - | 0 1 2
22 renamed | - | -
23 ticked | - | -
`

// liftTable are events of each kind, as they are said in each version.
const liftTable = `
1 opened | 7 | 7 | 7
2 closed | 64 | 64 | 64
3 listed | 3 | 3 100 | 3 100
3 listed | - | 3 250 | 3 250
4 halted | 16 | 16 | 16
5 resumed | 3 | 3 | 3
6 deposited | 7 5 | 7 500 | 7 500
6 deposited | - | 7 501 | 7 501
6 deposited | 1 11258999068426 | 1 1125899906842600 | 1 1125899906842600
6 deposited | - | 1 1125899906842624 | 1 1125899906842624
7 withdrawn | 7 1 | 7 100 | 7 100
7 withdrawn | - | 7 1 | 7 1
8 issued | 7 3 9 | 7 3 9 | 7 3 9
8 issued | 64 16 1048576 | 64 16 1048576 | 64 16 1048576
9 redeemed | 7 3 9 | 7 3 9 | 7 3 9
10 fee set | 0 | 0 | 0
10 fee set | 10 | 1000 | 1000
10 fee set | 4 | 400 | 400
10 fee set | - | 25 | 25
11 placed | 11 7 3 0 13 9 | 11 7 3 0 1300 9 | 11 7 3 1 1300 9
11 placed | 11 7 3 1 13 9 | 11 7 3 1 1300 9 | 11 7 3 2 1300 9
11 placed | - | 11 7 3 1 1310 9 | 11 7 3 2 1310 9
11 placed | 1 1 1 0 10737418 1 | 1 1 1 0 1073741800 1 | 1 1 1 1 1073741800 1
11 placed | - | 1 1 1 0 1073741824 1 | 1 1 1 1 1073741824 1
12 cancelled | 1099511627776 | 1099511627776 | 1099511627776
13 traded | 11 10 13 9 | 11 10 1300 9 0 | 11 10 1300 9 0
13 traded | - | 11 10 1300 9 100 | 11 10 1300 9 100
13 traded | - | 11 10 1300 9 1 | 11 10 1300 9 1
14 english | 5 7 3 9 13 17 | 5 7 3 9 1300 100 17 | 5 7 3 9 1300 100 170
14 english | - | 5 7 3 9 1300 200 17 | 5 7 3 9 1300 200 170
14 english | - | 5 7 3 9 1301 100 17 | 5 7 3 9 1301 100 170
14 english | - | - | 5 7 3 9 1300 100 171
14 english | 1 1 1 1 1 1 | 1 1 1 1 100 100 1 | 1 1 1 1 100 100 10
15 raised | 5 7 13 | 5 7 1300 | 5 7 1300
16 sealed | 5 7 3 9 13 17 | 5 7 3 9 1300 17 | 5 7 3 9 1300 170
16 sealed | - | - | 5 7 3 9 1300 5
17 bid | 5 7 13 | 5 7 1300 | 5 7 1300
18 sold | 5 7 13 | 5 7 1300 0 | 5 7 1300 0
18 sold | - | 5 7 1300 13 | 5 7 1300 13
19 unsold | 5 | 5 | 5
20 moved | 17 | 17 | 170
20 moved | - | - | 15
20 moved | 109951162777 | 109951162777 | 1099511627770
20 moved | - | - | 1099511627776
21 transferred | - | 7 8 1300 | 7 8 1300
22 renamed | - | - | 7
23 ticked | - | - | 3 100
`

// cells tells a line's kind, and its cells, without blanks around them.
func cells(line string) (uint8, []string) {
	l := strings.Split(line, "|")
	for i := range l {
		l[i] = strings.TrimSpace(l[i])
	}
	kind, _ := strconv.Atoi(strings.Fields(l[0])[0])
	return uint8(kind), l[1:]
}

func lines(table string) []string { return strings.Split(strings.TrimSpace(table), "\n") }

func number(s string) int64 {
	n, _ := strconv.ParseInt(s, 10, 64)
	return n
}

// rule reads a rule of the table.
func rule(s string) upcast.Rule {
	if rest, is := strings.CutPrefix(s, "="); is {
		return upcast.Rule{From: -1, Plus: number(rest)}
	}
	from, plus, _ := strings.Cut(s, "+")
	from, times, is := strings.Cut(from, "*")
	r := upcast.Rule{From: int(number(from)), Times: 1, Plus: number(plus)}
	if is {
		r.Times = number(times)
	}
	return r
}

// ruled are a kind's rules by the table.
func ruled(v, kind uint8) ([]upcast.Rule, bool) {
	if v < 1 || v > 2 || kind < 1 || kind > 23 {
		return nil, false
	}
	_, l := cells(lines(ruleTable)[kind-1])
	if l[v-1] == "-" {
		return nil, false
	}
	var rules []upcast.Rule
	for _, s := range strings.Fields(l[v-1]) {
		rules = append(rules, rule(s))
	}
	return rules, true
}

// lifting is an event, lifted by the rules of the table.
func lifting(e api.Event) (api.Event, bool) {
	rules, is := ruled(e.V, e.Kind)
	if !is {
		return api.Event{}, false
	}
	up := api.Event{V: e.V + 1, Kind: e.Kind, Texts: slices.Clone(e.Texts)}
	for _, r := range rules {
		n := r.Plus
		if r.From >= 0 {
			n += r.Times * e.Nums[r.From]
		}
		up.Nums = append(up.Nums, n)
	}
	return up, true
}

// letting is the event that becomes e by the rules of the table, if there is one.
func letting(e api.Event) (api.Event, bool) {
	down := api.Event{V: e.V - 1, Kind: e.Kind, Texts: slices.Clone(e.Texts)}
	rules, is := ruled(e.V-1, e.Kind)
	for i, r := range rules {
		if r.From >= 0 {
			// What is not a multiple is rounded, and does not become e again.
			down.Nums = append(down.Nums, (e.Nums[i]-r.Plus)/r.Times)
		}
	}
	if !is || !schema.May(down) {
		return api.Event{}, false
	}
	up, _ := lifting(down)
	return down, schema.Same(up, e)
}

// saying is an event, said in a version by the rules of the table.
func saying(e api.Event, v uint8) (api.Event, bool) {
	is := v >= 1 && v <= 3
	for is && e.V < v {
		e, is = lifting(e)
	}
	for is && e.V > v {
		e, is = letting(e)
	}
	return e, is
}

// named puts a name into an event whose kind has one.
func named(e api.Event, name string) api.Event {
	if _, text, _ := schema.Fields(e.V, e.Kind); text {
		e.Texts = []string{name}
	}
	return e
}

// read reads an event of the table; none, if it can't be said in that version.
func read(v, kind uint8, cell string) (api.Event, bool) {
	if cell == "-" {
		return api.Event{}, false
	}
	e := api.Event{V: v, Kind: kind}
	for _, s := range strings.Fields(cell) {
		e.Nums = append(e.Nums, number(s))
	}
	return named(e, "a-b_9"), true
}

// row is an event as it is said in versions 1 to 3, and whether it can be.
type row struct {
	event [4]api.Event
	can   [4]bool
}

func rows() []row {
	var l []row
	for _, line := range lines(liftTable) {
		var r row
		kind, said := cells(line)
		for v := 1; v <= 3; v++ {
			r.event[v], r.can[v] = read(uint8(v), kind, said[v-1])
		}
		l = append(l, r)
	}
	return l
}

// dice tells numbers that look like any, the same ones in each run.
type dice uint64

func (d *dice) next() uint64 {
	*d ^= *d << 13
	*d ^= *d >> 7
	*d ^= *d << 17
	return uint64(*d) * 0x2545F4914F6CDD1D
}

func (d *dice) below(n int) int { return int(d.next() % uint64(n)) }

// between tells a number from low to high: small ones as often as great ones,
// and many that are whole hundreds.
func (d *dice) between(low, high int64) int64 {
	n := low + int64(d.next()>>d.below(64)%uint64(high-low+1))
	if round := n / 100 * 100; d.below(4) > 0 && round >= low {
		return round
	}
	return n
}

// pick tells an event of a kind: each number is the one picked from its bounds.
func pick(v, kind uint8, from func(low, high int64) int64) api.Event {
	e := api.Event{V: v, Kind: kind}
	l, _, _ := schema.Fields(v, kind)
	for _, c := range l {
		low, high, _ := schema.Bound(v, c)
		e.Nums = append(e.Nums, from(low, high))
	}
	return named(e, "ann")
}

// event tells one that may be; many of them are lifted ones.
func (d *dice) event() api.Event {
	v := uint8(1 + d.below(3))
	l := schema.Kinds(v)
	e := pick(v, l[d.below(len(l))], d.between)
	for range d.below(3) {
		if up, is := lifting(e); is {
			e = up
		}
	}
	return e
}

func (d *dice) events(n int) []api.Event {
	var l []api.Event
	for range n {
		l = append(l, d.event())
	}
	return l
}

func low(low, high int64) int64  { return low }
func high(low, high int64) int64 { return high }

// with tells the event with another number in the place of one.
func with(e api.Event, i int, n int64) api.Event {
	e.Nums = slices.Clone(e.Nums)
	e.Nums[i] = n
	return e
}

// samples are events of each kind in each version, with each number at its
// bounds, beside them, and at whole tens and hundreds and beside these, among
// others that can be let down, or can't.
func samples() []api.Event {
	var l []api.Event
	for v := uint8(1); v <= 3; v++ {
		for _, kind := range schema.Kinds(v) {
			fields, _, _ := schema.Fields(v, kind)
			base := []api.Event{pick(v, kind, low), pick(v, kind, high)}
			for _, r := range rows() {
				if r.can[v] && r.event[v].Kind == kind {
					base = append(base, r.event[v])
				}
			}
			for _, e := range base {
				for i, c := range fields {
					least, greatest, _ := schema.Bound(v, c)
					for _, n := range []int64{least, least + 1, greatest - 1, greatest, greatest / 10 * 10, greatest / 100 * 100, 0, 1, 2, 9, 10, 11, 50, 90, 99, 100, 101, 110, 199, 200, 1000} {
						if schema.Fits(v, c, n) {
							l = append(l, with(e, i, n))
						}
					}
				}
			}
		}
	}
	d := dice(7)
	return append(l, d.events(2000)...)
}

// notBe are events that may not be.
func notBe() []api.Event {
	l := []api.Event{{}, {V: 3}, {Kind: api.Closed, Nums: []int64{1}}, {V: 3, Nums: []int64{1}}}
	other := func(e api.Event, change func(o *api.Event)) {
		change(&e)
		l = append(l, e)
	}
	for v := uint8(1); v <= 3; v++ {
		for _, kind := range schema.Kinds(v) {
			fields, _, _ := schema.Fields(v, kind)
			for _, e := range []api.Event{pick(v, kind, low), pick(v, kind, high)} {
				for i, c := range fields {
					least, greatest, _ := schema.Bound(v, c)
					for _, n := range []int64{least - 1, greatest + 1, -greatest, 100 * greatest, math.MinInt64, math.MaxInt64} {
						if n != greatest {
							l = append(l, with(e, i, n))
						}
					}
				}
				for _, no := range []uint8{0, 4, 255} {
					other(e, func(o *api.Event) { o.V = no })
				}
				for _, no := range []uint8{0, 24, 255} {
					other(e, func(o *api.Event) { o.Kind = no })
				}
				other(e, func(o *api.Event) { o.Nums = nil })
				other(e, func(o *api.Event) { o.Nums = e.Nums[1:] })
				other(e, func(o *api.Event) { o.Nums = append(slices.Clone(e.Nums), 1) })
				other(e, func(o *api.Event) { o.Texts = append(slices.Clone(e.Texts), "ann") })
				if len(e.Texts) > 0 {
					other(e, func(o *api.Event) { o.Texts = nil })
					other(e, func(o *api.Event) { o.Texts = []string{"A"} })
					other(e, func(o *api.Event) { o.Texts = []string{""} })
				}
			}
		}
	}
	// Kinds that a version has not yet.
	l = append(l, api.Event{V: 1, Kind: api.Transferred, Nums: []int64{1, 2, 3}})
	for v := uint8(1); v <= 2; v++ {
		l = append(l, api.Event{V: v, Kind: api.Renamed, Nums: []int64{1}, Texts: []string{"ann"}})
		l = append(l, api.Event{V: v, Kind: api.Ticked, Nums: []int64{1, 100}})
	}
	return l
}

// tells says what is wrong with an answer that should be an event.
func tells(t *testing.T, call string, of, got, want api.Event, wrong api.Errno) {
	t.Helper()
	if wrong != api.OK || !schema.Same(got, want) {
		t.Errorf("%s(%v): %v, %d, not %v", call, of, got, wrong, want)
	}
}

// errs says what is wrong with an answer that should be an error, and nothing
// beside it.
func errs(t *testing.T, call string, of, got api.Event, wrong, want api.Errno) {
	t.Helper()
	if wrong != want || !schema.Same(got, api.Event{}) {
		t.Errorf("%s(%v): %v, %d, not %d", call, of, got, wrong, want)
	}
}

// answers says what is wrong with an answer that should be an event, if it can
// be, else ErrVersion.
func answers(t *testing.T, call string, of, got api.Event, wrong api.Errno, want api.Event, can bool) {
	t.Helper()
	if can {
		tells(t, call, of, got, want, wrong)
	} else {
		errs(t, call, of, got, wrong, api.ErrVersion)
	}
}

func toCall(v uint8) string { return fmt.Sprintf("To %d", v) }

// P7.1: Rules, Up, Down, Newest.

func TestRulesAreThoseOfTheDocument(t *testing.T) {
	for v := range 256 {
		for kind := range 256 {
			want, there := ruled(uint8(v), uint8(kind))
			got, is := upcast.Rules(uint8(v), uint8(kind))
			if is != there || !slices.Equal(got, want) {
				t.Errorf("Rules(%d, %d): %v, %v, not %v, %v", v, kind, got, is, want, there)
			}
		}
	}
}

func TestRulesOfTheExample(t *testing.T) {
	got, is := upcast.Rules(2, api.Moved)
	if !is || len(got) != 1 || got[0] != (upcast.Rule{From: 0, Times: 10}) {
		t.Error(got, is)
	}
}

func TestThereAreRulesOfEachKindOfAVersionButTheNewest(t *testing.T) {
	for v := range 256 {
		for kind := range 256 {
			_, _, there := schema.Fields(uint8(v), uint8(kind))
			if _, is := upcast.Rules(uint8(v), uint8(kind)); is != (there && v < 3) {
				t.Errorf("Rules(%d, %d): %v", v, kind, is)
			}
		}
	}
}

func TestUpAndDownOfTheExamples(t *testing.T) {
	nums := func(l ...int64) []int64 { return l }
	ups := []struct {
		kind       uint8
		v          uint8
		nums, want []int64
	}{
		{api.Deposited, 1, nums(1, 5), nums(1, 500)},
		{api.Placed, 1, nums(1, 2, 3, 0, 7, 9), nums(1, 2, 3, 0, 700, 9)},
		{api.Placed, 2, nums(1, 2, 3, 0, 700, 9), nums(1, 2, 3, 1, 700, 9)},
		{api.Listed, 1, nums(1), nums(1, 100)},
		{api.English, 1, nums(4, 1, 2, 6, 7, 5), nums(4, 1, 2, 6, 700, 100, 5)},
		{api.English, 2, nums(4, 1, 2, 6, 700, 100, 5), nums(4, 1, 2, 6, 700, 100, 50)},
		{api.Traded, 1, nums(2, 1, 7, 9), nums(2, 1, 700, 9, 0)},
	}
	for _, c := range ups {
		e := named(api.Event{V: c.v, Kind: c.kind, Nums: c.nums}, "x")
		want := named(api.Event{V: c.v + 1, Kind: c.kind, Nums: c.want}, "x")
		got, wrong := upcast.Up(e)
		tells(t, "Up", e, got, want, wrong)
		back, wrong := upcast.Down(want)
		tells(t, "Down", want, back, e, wrong)
	}
	for _, e := range []api.Event{
		{V: 2, Kind: api.Deposited, Nums: nums(1, 550)},
		{V: 3, Kind: api.Moved, Nums: nums(15)},
		{V: 2, Kind: api.Traded, Nums: nums(2, 1, 700, 9, 1)},
		{V: 3, Kind: api.Ticked, Nums: nums(1, 100)},
	} {
		got, wrong := upcast.Down(e)
		errs(t, "Down", e, got, wrong, api.ErrVersion)
	}
}

func TestEachKindOfTheTableIsLifted(t *testing.T) {
	for _, r := range rows() {
		for v := uint8(1); v <= 3; v++ {
			if !r.can[v] {
				continue
			}
			if v < 3 {
				got, wrong := upcast.Up(r.event[v])
				tells(t, "Up", r.event[v], got, r.event[v+1], wrong)
			}
			got, wrong := upcast.Newest(r.event[v])
			tells(t, "Newest", r.event[v], got, r.event[3], wrong)
		}
	}
}

func TestEachKindOfTheTableIsLetDown(t *testing.T) {
	for _, r := range rows() {
		for v := uint8(1); v <= 3; v++ {
			if r.can[v] {
				got, wrong := upcast.Down(r.event[v])
				answers(t, "Down", r.event[v], got, wrong, r.event[v-1], r.can[v-1])
			}
		}
	}
}

func TestTheTableHasEachKindInEachVersion(t *testing.T) {
	for v := uint8(1); v <= 3; v++ {
		for _, kind := range schema.Kinds(v) {
			if !slices.ContainsFunc(rows(), func(r row) bool { return r.can[v] && r.event[v].Kind == kind }) {
				t.Errorf("no event %d of version %d", kind, v)
			}
		}
	}
	for _, r := range rows() {
		for v := uint8(1); v <= 3; v++ {
			if r.can[v] && !schema.May(r.event[v]) {
				t.Errorf("%v may not be", r.event[v])
			}
		}
	}
}

func TestUpDownAndNewestByTheRules(t *testing.T) {
	for _, e := range samples() {
		want, can := lifting(e)
		got, wrong := upcast.Up(e)
		answers(t, "Up", e, got, wrong, want, can)
		want, can = letting(e)
		got, wrong = upcast.Down(e)
		answers(t, "Down", e, got, wrong, want, can)
		want, _ = saying(e, 3)
		got, wrong = upcast.Newest(e)
		tells(t, "Newest", e, got, want, wrong)
	}
}

func TestNeitherTheNewestOneGoesUpNorTheFirstOneDown(t *testing.T) {
	for _, e := range samples() {
		if e.V == 3 {
			got, wrong := upcast.Up(e)
			errs(t, "Up", e, got, wrong, api.ErrVersion)
		}
		if e.V == 1 {
			got, wrong := upcast.Down(e)
			errs(t, "Down", e, got, wrong, api.ErrVersion)
		}
	}
}

// The errors' table: what may not be comes first.

func TestWhatMayNotBeIsRefusedAheadOfAll(t *testing.T) {
	for _, e := range notBe() {
		if schema.May(e) {
			t.Fatalf("%v may be", e)
		}
		got, wrong := upcast.Up(e)
		errs(t, "Up", e, got, wrong, api.ErrForm)
		got, wrong = upcast.Down(e)
		errs(t, "Down", e, got, wrong, api.ErrForm)
		got, wrong = upcast.Newest(e)
		errs(t, "Newest", e, got, wrong, api.ErrForm)
		for _, v := range []uint8{0, 1, 2, 3, 4, 255} {
			got, wrong = upcast.To(e, v)
			errs(t, toCall(v), e, got, wrong, api.ErrForm)
			n, l, wrong := upcast.Lowest([]api.Event{e}, v)
			if n != 0 || len(l) != 0 || wrong != api.ErrForm {
				t.Errorf("Lowest(%v, %d): %d, %v, %d", e, v, n, l, wrong)
			}
		}
	}
}

// P7.2: To, Lowest.

func TestToSaysTheTableInEachVersion(t *testing.T) {
	for _, r := range rows() {
		for from := uint8(1); from <= 3; from++ {
			for v := uint8(1); v <= 3 && r.can[from]; v++ {
				got, wrong := upcast.To(r.event[from], v)
				answers(t, toCall(v), r.event[from], got, wrong, r.event[v], r.can[v])
			}
		}
	}
}

func TestToByTheRules(t *testing.T) {
	for _, e := range samples() {
		for _, v := range []uint8{0, 1, 2, 3, 4, 5, 128, 255} {
			want, can := saying(e, v)
			got, wrong := upcast.To(e, v)
			answers(t, toCall(v), e, got, wrong, want, can)
		}
	}
}

// lowest is the least version from v on in which all events can be said, and the
// list, said so, by the rules of the table.
func lowest(l []api.Event, v uint8) (uint8, []api.Event) {
next:
	for ; ; v++ {
		var told []api.Event
		for _, e := range l {
			said, can := saying(e, v)
			if !can {
				continue next
			}
			told = append(told, said)
		}
		return v, told
	}
}

// isList says what is wrong with a list that should be another one.
func isList(t *testing.T, of []api.Event, v uint8) {
	t.Helper()
	want, list := lowest(copied(of), v)
	got, told, wrong := upcast.Lowest(of, v)
	if got != want || wrong != api.OK || !slices.EqualFunc(told, list, schema.Same) {
		t.Errorf("Lowest(%v, %d): %d, %v, %d, not %d, %v", of, v, got, told, wrong, want, list)
	}
}

// copied is a list as it is now, whatever becomes of it.
func copied(of []api.Event) []api.Event {
	var told []api.Event
	for _, e := range of {
		e.Nums, e.Texts = slices.Clone(e.Nums), slices.Clone(e.Texts)
		told = append(told, e)
	}
	return told
}

func TestLowestOfTheExample(t *testing.T) {
	e := api.Event{V: 3, Kind: api.Transferred, Nums: []int64{1, 2, 3}}
	v, told, wrong := upcast.Lowest([]api.Event{e}, 1)
	e.V = 2
	if v != 2 || len(told) != 1 || !schema.Same(told[0], e) || wrong != api.OK {
		t.Error(v, told, wrong)
	}
}

func TestLowestOfAnEmptyListIsTheVersion(t *testing.T) {
	for _, none := range [][]api.Event{nil, {}} {
		for v := uint8(1); v <= 3; v++ {
			if n, told, wrong := upcast.Lowest(none, v); n != v || len(told) != 0 || wrong != api.OK {
				t.Errorf("Lowest of none, %d: %d, %v, %d", v, n, told, wrong)
			}
		}
	}
}

func TestLowestOfOneEvent(t *testing.T) {
	for _, e := range samples() {
		for v := uint8(1); v <= 3; v++ {
			isList(t, []api.Event{e}, v)
		}
	}
}

func TestLowestOfEventsOfUnlikeVersions(t *testing.T) {
	d := dice(11)
	all := samples()
	for range 3000 {
		var list []api.Event
		for range 2 + d.below(5) {
			list = append(list, all[d.below(len(all))])
		}
		for v := uint8(1); v <= 3; v++ {
			isList(t, list, v)
		}
	}
}

func TestOneEventMakesAListHigher(t *testing.T) {
	plain := []api.Event{
		{V: 1, Kind: api.Deposited, Nums: []int64{1, 5}},
		{V: 2, Kind: api.Listed, Nums: []int64{3, 100}, Texts: []string{"x"}},
		{V: 3, Kind: api.Moved, Nums: []int64{50}},
	}
	for _, c := range []struct {
		e    api.Event
		want uint8
	}{
		{api.Event{V: 3, Kind: api.Closed, Nums: []int64{1}}, 1},
		{api.Event{V: 2, Kind: api.Listed, Nums: []int64{3, 101}, Texts: []string{"x"}}, 2},
		{api.Event{V: 3, Kind: api.Sold, Nums: []int64{1, 2, 300, 4}}, 2},
		{api.Event{V: 3, Kind: api.Transferred, Nums: []int64{1, 2, 300}}, 2},
		{api.Event{V: 3, Kind: api.Moved, Nums: []int64{51}}, 3},
		{api.Event{V: 3, Kind: api.Renamed, Nums: []int64{1}, Texts: []string{"y"}}, 3},
		{api.Event{V: 3, Kind: api.Ticked, Nums: []int64{1, 100}}, 3},
	} {
		for i := range len(plain) + 1 {
			list := slices.Insert(slices.Clone(plain), i, c.e)
			for v := uint8(1); v <= 3; v++ {
				got, told, wrong := upcast.Lowest(list, v)
				if got != max(c.want, v) || len(told) != len(list) || wrong != api.OK {
					t.Errorf("Lowest(%v, %d): %d, %v, %d", list, v, got, told, wrong)
				}
				isList(t, list, v)
			}
		}
	}
}

func TestLowestOfAVersionThatThereIsNot(t *testing.T) {
	for _, list := range [][]api.Event{nil, {pick(1, api.Moved, low)}, {pick(3, api.Ticked, low), pick(1, api.Moved, low)}} {
		for _, v := range []uint8{0, 4, 5, 128, 255} {
			if n, told, wrong := upcast.Lowest(list, v); n != 0 || len(told) != 0 || wrong != api.ErrVersion {
				t.Errorf("Lowest(%v, %d): %d, %v, %d", list, v, n, told, wrong)
			}
		}
	}
}

func TestOneEventThatMayNotBeIsEnough(t *testing.T) {
	d := dice(13)
	for _, bad := range notBe() {
		list := d.events(d.below(4))
		list = slices.Insert(list, d.below(len(list)+1), bad)
		for _, v := range []uint8{0, 1, 2, 3, 4, 255} {
			if n, told, wrong := upcast.Lowest(list, v); n != 0 || len(told) != 0 || wrong != api.ErrForm {
				t.Errorf("Lowest(%v, %d): %d, %v, %d", list, v, n, told, wrong)
			}
		}
	}
}

func TestALongList(t *testing.T) {
	d := dice(17)
	list := d.events(20000)
	isList(t, list, 1)
	var old []api.Event
	for range 20000 {
		old = append(old, pick(1, schema.Kinds(1)[d.below(20)], d.between))
	}
	isList(t, old, 1)
	isList(t, append(old, api.Event{V: 3, Kind: api.Ticked, Nums: []int64{1, 1}}), 1)
}

// P7.3: there and back.

func TestDownOfUpIsTheEvent(t *testing.T) {
	for _, e := range samples() {
		if e.V == 3 {
			continue
		}
		up, wrong := upcast.Up(e)
		if wrong != api.OK {
			t.Fatalf("Up(%v): %d", e, wrong)
		}
		back, wrong := upcast.Down(up)
		tells(t, "Down", up, back, e, wrong)
	}
}

func TestWhatDownTellsIsItLifted(t *testing.T) {
	told := 0
	for _, e := range samples() {
		down, wrong := upcast.Down(e)
		if wrong != api.OK {
			continue
		}
		told++
		if !schema.May(down) || down.V != e.V-1 {
			t.Errorf("Down(%v): %v", e, down)
		}
		up, wrong := upcast.Up(down)
		tells(t, "Up", down, up, e, wrong)
	}
	if told < 1000 {
		t.Errorf("only %d could be let down", told)
	}
}

// all tells each event of a kind whose numbers are up to a few; those that don't
// stand in wide are the least ones that may be.
func all(v, kind uint8, few int64, wide string) []api.Event {
	l := []api.Event{pick(v, kind, low)}
	fields, _, _ := schema.Fields(v, kind)
	for i, c := range fields {
		if !strings.ContainsRune(wide, rune(c)) {
			continue
		}
		var more []api.Event
		for _, e := range l {
			for n := range few {
				if schema.Fits(v, c, n) {
					more = append(more, with(e, i, n))
				}
			}
		}
		l = more
	}
	return l
}

// What is let down is held against all that, lifted, comes near it.
func TestWhatCannotBeLetDownIsWhatNoEventBecomes(t *testing.T) {
	for _, c := range []struct {
		v    uint8
		wide string
		few  int64
		much int64
	}{
		{1, "mzpkb", 3, 205},
		{2, "t", 21, 205},
		{2, "sz", 5, 5},
		{2, "ocaiq", 3, 3},
	} {
		for _, kind := range schema.Kinds(c.v + 1) {
			become := map[string]api.Event{}
			if _, is := ruled(c.v, kind); is {
				for _, e := range all(c.v, kind, c.few, c.wide) {
					up, _ := upcast.Up(e)
					become[fmt.Sprint(up)] = e
				}
			}
			for _, e := range all(c.v+1, kind, c.much, c.wide) {
				want, there := become[fmt.Sprint(e)]
				if of, can := letting(e); can && !there {
					t.Fatalf("%v, that becomes %v, is not among them", of, e)
				}
				got, wrong := upcast.Down(e)
				answers(t, "Down", e, got, wrong, want, there)
			}
		}
	}
}

// P7.4: the newest one.

func TestTwoAreTheSameLiftedJustIfTheyAreInEitherVersion(t *testing.T) {
	d := dice(19)
	var list []api.Event
	for _, e := range samples() {
		if d.below(20) == 0 {
			list = append(list, e)
		}
	}
	for _, r := range rows() {
		for v := 1; v <= 3; v++ {
			if r.can[v] {
				list = append(list, r.event[v])
			}
		}
	}
	alike := 0
	for _, a := range list {
		for _, b := range list {
			if a.Kind != b.Kind {
				continue
			}
			x, _ := upcast.Newest(a)
			y, _ := upcast.Newest(b)
			same := schema.Same(x, y)
			if same && a.V != b.V {
				alike++
			}
			for _, v := range []uint8{min(a.V, b.V), max(a.V, b.V)} {
				x, no := upcast.To(a, v)
				y, not := upcast.To(b, v)
				if said := no == api.OK && not == api.OK && schema.Same(x, y); said != same {
					t.Errorf("%v, %v: lifted the same: %v; in version %d: %v", a, b, same, v, said)
				}
			}
		}
	}
	if alike < 100 {
		t.Errorf("only %d of unlike versions were the same", alike)
	}
}

func TestUnlikeEventsStayUnlike(t *testing.T) {
	was := map[string]string{}
	for _, e := range samples() {
		first, can := e, true
		for v := uint8(1); v < e.V; v++ {
			if first, can = saying(e, v); can {
				break
			}
		}
		if !can {
			first = e
		}
		top, _ := upcast.Newest(e)
		told := fmt.Sprint(top)
		if of, there := was[told]; there && of != fmt.Sprint(first) {
			t.Errorf("%s and %v become %v", of, first, top)
		}
		was[told] = fmt.Sprint(first)
	}
}

func TestByWayOfAVersionBetween(t *testing.T) {
	for _, e := range samples() {
		for v := uint8(1); v <= 3; v++ {
			want, wrong := upcast.To(e, v)
			for between := min(e.V, v); between <= max(e.V, v); between++ {
				half, no := upcast.To(e, between)
				if no != api.OK {
					errs(t, toCall(v), e, want, wrong, no)
					continue
				}
				got, no := upcast.To(half, v)
				if no != wrong || !schema.Same(got, want) {
					t.Errorf("%v to %d: %v, %d; by way of %v: %v, %d", e, v, want, wrong, half, got, no)
				}
			}
		}
	}
}

func TestToTheNewestOneIsNewest(t *testing.T) {
	for _, e := range samples() {
		want, wrong := upcast.Newest(e)
		got, no := upcast.To(e, 3)
		if wrong != api.OK || no != api.OK || !schema.Same(got, want) || want.V != 3 {
			t.Errorf("Newest(%v): %v, %d; To: %v, %d", e, want, wrong, got, no)
		}
		own, no := upcast.To(e, e.V)
		tells(t, "To its own", e, own, e, no)
	}
}

// P7.5: what is said.

func TestWhatIsLiftedMayBeAndIsAsTheRulesSay(t *testing.T) {
	for _, e := range samples() {
		rules, goes := upcast.Rules(e.V, e.Kind)
		up, wrong := upcast.Up(e)
		if goes != (wrong == api.OK) {
			t.Errorf("Rules of %v: %v, Up: %d", e, goes, wrong)
		}
		if !goes {
			continue
		}
		if !schema.May(up) || up.V != e.V+1 || up.Kind != e.Kind || !slices.Equal(up.Texts, e.Texts) || len(up.Nums) != len(rules) {
			t.Errorf("Up(%v): %v", e, up)
			continue
		}
		for i, r := range rules {
			want := r.Plus
			if r.From >= 0 {
				want += r.Times * e.Nums[r.From]
			}
			if up.Nums[i] != want {
				t.Errorf("Up(%v): %v, by the rule %v", e, up, r)
			}
		}
	}
}

func TestNamesStay(t *testing.T) {
	for _, name := range []string{"a", "z", "-", "_", "0", "a-b_9", strings.Repeat("z", 24)} {
		for _, e := range []api.Event{{V: 1, Kind: api.Opened, Nums: []int64{1}}, {V: 1, Kind: api.Listed, Nums: []int64{1}}} {
			e.Texts = []string{name}
			for v := uint8(1); v <= 3; v++ {
				said, wrong := upcast.To(e, v)
				if wrong != api.OK || len(said.Texts) != 1 || said.Texts[0] != name {
					t.Errorf("%v to %d: %v, %d", e, v, said, wrong)
				}
				back, wrong := upcast.To(said, 1)
				tells(t, "To 1", said, back, e, wrong)
			}
		}
	}
}

// P7.6: lists.

func TestAListSaidIsTheListAndNoLowerOne(t *testing.T) {
	d := dice(23)
	for range 3000 {
		list := d.events(d.below(5))
		for v := uint8(1); v <= 3; v++ {
			n, told, wrong := upcast.Lowest(list, v)
			if wrong != api.OK || n < v || n > 3 || len(told) != len(list) {
				t.Fatalf("Lowest(%v, %d): %d, %v, %d", list, v, n, told, wrong)
			}
			for i := range list {
				want, _ := upcast.Newest(list[i])
				got, wrong := upcast.Newest(told[i])
				tells(t, "Newest", told[i], got, want, wrong)
				if told[i].V != n || !schema.May(told[i]) {
					t.Errorf("Lowest(%v, %d): %d, %v", list, v, n, told)
				}
			}
			for lower := v; lower < n; lower++ {
				if !slices.ContainsFunc(list, func(e api.Event) bool {
					_, wrong := upcast.To(e, lower)
					return wrong == api.ErrVersion
				}) {
					t.Errorf("Lowest(%v, %d): %d, and all can be said in %d", list, v, n, lower)
				}
			}
		}
	}
}

func TestAPartOfAListNeedsNoHigherVersion(t *testing.T) {
	d := dice(29)
	for range 500 {
		list := d.events(1 + d.below(6))
		v := uint8(1 + d.below(3))
		n, _, _ := upcast.Lowest(list, v)
		for bits := range 1 << len(list) {
			var part []api.Event
			for i, e := range list {
				if bits>>i&1 == 1 {
					part = append(part, e)
				}
			}
			if m, _, wrong := upcast.Lowest(part, v); m > n || m < v || wrong != api.OK {
				t.Errorf("Lowest(%v, %d): %d, %d, of all: %d", part, v, m, wrong, n)
			}
		}
	}
}

// R1: what is told shares no memory, what is handed in stays.

// overwrite writes over all of an event, and over what there is room for behind it.
func overwrite(e api.Event) {
	nums, texts := e.Nums[:cap(e.Nums)], e.Texts[:cap(e.Texts)]
	for i := range nums {
		nums[i] = -7
	}
	for i := range texts {
		texts[i] = "!"
	}
}

// roomy is an event whose lists have room behind them.
func roomy(e api.Event) api.Event {
	e.Nums = append(make([]int64, 0, 20), e.Nums...)
	e.Texts = append(make([]string, 0, 4), e.Texts...)
	return e
}

func TestWhatIsToldMayBeWrittenOver(t *testing.T) {
	for _, sample := range samples() {
		e := roomy(sample)
		calls := []func() (api.Event, api.Errno){
			func() (api.Event, api.Errno) { return upcast.Up(e) },
			func() (api.Event, api.Errno) { return upcast.Down(e) },
			func() (api.Event, api.Errno) { return upcast.Newest(e) },
		}
		for v := uint8(1); v <= 3; v++ {
			calls = append(calls, func() (api.Event, api.Errno) { return upcast.To(e, v) })
		}
		for i, call := range calls {
			told, _ := call()
			want := copied([]api.Event{told})[0]
			again, _ := call()
			overwrite(told)
			third, _ := call()
			if !schema.Same(e, sample) || !schema.Same(again, want) || !schema.Same(third, want) {
				t.Fatalf("call %d of %v: %v, then %v, %v, not %v", i, sample, e, again, third, want)
			}
		}
	}
}

func TestListsThatAreToldMayBeWrittenOver(t *testing.T) {
	d := dice(31)
	for range 1000 {
		// The same lists stand in more than one event.
		list := d.events(1 + d.below(3))
		list[0] = roomy(list[0])
		list = append(list, list...)
		want := copied(list)
		for v := uint8(1); v <= 3; v++ {
			_, told, _ := upcast.Lowest(list, v)
			stay := copied(told)
			_, again, _ := upcast.Lowest(list, v)
			overwrite(told[0])
			if !slices.EqualFunc(told[1:], stay[1:], schema.Same) {
				t.Fatalf("Lowest(%v, %d): events share their lists", want, v)
			}
			for _, e := range told {
				overwrite(e)
			}
			clear(told[:cap(told)])
			_, third, _ := upcast.Lowest(list, v)
			if !slices.EqualFunc(list, want, schema.Same) || !slices.EqualFunc(again, stay, schema.Same) || !slices.EqualFunc(third, stay, schema.Same) {
				t.Fatalf("Lowest(%v, %d): %v, then %v, %v", want, v, stay, again, third)
			}
		}
	}
}

func TestRulesThatAreToldMayBeWrittenOver(t *testing.T) {
	for v := uint8(1); v <= 2; v++ {
		for _, kind := range schema.Kinds(v) {
			told, _ := upcast.Rules(v, kind)
			again, _ := upcast.Rules(v, kind)
			clear(told[:cap(told)])
			third, _ := upcast.Rules(v, kind)
			want, _ := ruled(v, kind)
			if !slices.Equal(again, want) || !slices.Equal(third, want) {
				t.Errorf("Rules(%d, %d): %v, %v, not %v", v, kind, again, third, want)
			}
		}
	}
}

func TestWhatIsHandedInStays(t *testing.T) {
	for _, sample := range slices.Concat(samples(), notBe()) {
		e := roomy(sample)
		list := []api.Event{e, e}
		upcast.Up(e)
		upcast.Down(e)
		upcast.Newest(e)
		for _, v := range []uint8{0, 1, 2, 3, 4} {
			upcast.To(e, v)
			upcast.Lowest(list, v)
		}
		if !schema.Same(e, sample) || !schema.Same(list[0], sample) || !schema.Same(list[1], sample) {
			t.Errorf("%v: became %v, %v", sample, e, list)
		}
		if slices.ContainsFunc(e.Nums[len(e.Nums):20], func(n int64) bool { return n != 0 }) {
			t.Errorf("%v: written behind its numbers", sample)
		}
	}
}
