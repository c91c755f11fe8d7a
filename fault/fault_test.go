package fault_test

import (
	"errors"
	"fmt"
	"math"
	"slices"
	"strconv"
	"strings"
	"testing"

	"souk/api"
	"souk/fault"
)

// bare is an error that is no number, and wraps none.
var bare = errors.New("bare")

// whose are the numbers of api, each with its Class.
func whose() map[api.Errno]fault.Class {
	return map[api.Errno]fault.Class{
		api.OK: fault.None,

		api.ErrArg: fault.Caller,
		api.ErrNil: fault.Caller,

		api.ErrForm:    fault.Bytes,
		api.ErrShort:   fault.Bytes,
		api.ErrSum:     fault.Bytes,
		api.ErrVersion: fault.Bytes,

		api.ErrNone:     fault.Market,
		api.ErrTwice:    fault.Market,
		api.ErrTooLarge: fault.Market,
		api.ErrOver:     fault.Market,
		api.ErrState:    fault.Market,
		api.ErrFunds:    fault.Market,
		api.ErrHalted:   fault.Market,
		api.ErrOwner:    fault.Market,
		api.ErrTick:     fault.Market,
		api.ErrLow:      fault.Market,

		api.ErrFull: fault.Disk,
		api.ErrCut:  fault.Disk,
		api.ErrGone: fault.Disk,
	}
}

// numbers are those of api, and some that api has not.
func numbers() []api.Errno {
	l := []api.Errno{math.MinInt, -1000, -44, -1, 1000, 256 + 44, 1<<32 + 44, math.MaxInt}
	for n := range api.Errno(100) {
		l = append(l, n)
	}
	return l
}

func classes() []fault.Class {
	return []fault.Class{fault.None, fault.Caller, fault.Bytes, fault.Market, fault.Disk}
}

// layer is what an error is wrapped with.
type layer struct {
	op, name string
	at       int64
}

func (l layer) wrap(err error) error { return fault.Wrap(err, l.op, l.name, l.at) }

// text is a layer's by the words of the document.
func (l layer) text() string {
	s := l.op
	if l.name != "" {
		s = s + " " + l.name
	}
	if !(l.at < 0) {
		s = s + " at " + fmt.Sprint(l.at)
	}
	return s + ": "
}

// layers are some of each kind; of the Ops some come again.
func layers() []layer {
	return []layer{
		{"append", "s1", 7},
		{"submit", "", -1},
		{"", "", -1},
		{"", "x", 0},
		{"", "", 0},
		{"append", "s2", math.MaxInt64},
		{"append", "", math.MinInt64},
		{"two words", "a name: with signs\n", 1},
	}
}

// other is an error of another package, that wraps one.
type other struct{ err error }

func (o other) Error() string { return "other: " + fault.Text(o.err) }
func (o other) Unwrap() error { return o.err }

// broken is an error whose methods panic.
type broken struct{ error }

func (b *broken) Error() string { panic("Error") }
func (b *broken) Unwrap() error { panic("Unwrap") }
func (b *broken) Is(error) bool { panic("Is") }
func (b *broken) As(any) bool   { panic("As") }

// kinds are errors of each kind, none but of nil.
func kinds() []error {
	l := []error{bare, other{bare}, other{api.ErrLow}, other{fault.Wrap(api.ErrSum, "in", "n", 3)}}
	l = append(l, errors.Join(bare, api.ErrCut, api.ErrArg), fmt.Errorf("more: %w", api.ErrFull))
	for _, n := range numbers() {
		l = append(l, n)
	}
	for _, c := range append(classes(), 5, 255) {
		l = append(l, c)
	}
	return l
}

// all are errors of each kind, and those wrapped once, and more than once.
func all() []error {
	l := kinds()
	for _, err := range kinds() {
		once := fault.Wrap(err, "append", "s1", 7)
		l = append(l, once, fault.Wrap(once, "submit", "", -1), fault.Wrap(other{once}, "append", "s2", 0))
	}
	return append(l, nil)
}

// deep tells err, wrapped so many times: with 0, 1, and so on, from the inside.
func deep(err error, n int) error {
	for i := range n {
		err = fault.Wrap(err, strconv.Itoa(i), "", int64(i))
	}
	return err
}

// isCode says what is wrong with the number of an error.
func isCode(t *testing.T, err error, want api.Errno, is bool) {
	t.Helper()
	if n, ok := fault.Code(err); n != want || ok != is {
		t.Errorf("Code of %q: %d, %v, not %d, %v", fault.Text(err), n, ok, want, is)
	}
}

// isOps says what is wrong with the Ops of an error.
func isOps(t *testing.T, err error, want ...string) {
	t.Helper()
	if l := fault.Ops(err); !slices.Equal(l, want) {
		t.Errorf("Ops of %q: %q, not %q", fault.Text(err), l, want)
	}
}

// isFound says what is wrong with what is found.
func isFound(t *testing.T, err error, op, name string, at int64, is bool) {
	t.Helper()
	if n, a, ok := fault.Find(err, op); n != name || a != at || ok != is {
		t.Errorf("Find of %q in %q: %q, %d, %v, not %q, %d, %v", op, fault.Text(err), n, a, ok, name, at, is)
	}
}

// isText says what is wrong with the text of an error.
func isText(t *testing.T, err error, want string) {
	t.Helper()
	if s := fault.Text(err); s != want {
		t.Errorf("Text: %q, not %q", s, want)
	}
}

// The chapter's examples.

func TestExamples(t *testing.T) {
	err := fault.Wrap(fault.Wrap(api.ErrFull, "append", "s1", 7), "submit", "", -1)
	isText(t, err, "submit: append s1 at 7: souk: error 44")
	isOps(t, err, "submit", "append")
	isCode(t, err, 44, true)
	if !fault.In(err, fault.Disk) {
		t.Error("it is not the Disk's")
	}
	isFound(t, err, "append", "s1", 7, true)
}

// P4.1: Wrap.

func TestWrapKeepsWhatItIsHanded(t *testing.T) {
	for _, l := range layers() {
		for _, err := range kinds() {
			e, ok := l.wrap(err).(*fault.Error)
			if !ok || e.Op != l.op || e.Name != l.name || e.At != l.at {
				t.Fatalf("%v around %v: %+v", l, err, e)
			}
		}
	}
}

func TestWrapOfNoneIsNone(t *testing.T) {
	for _, l := range layers() {
		if err := l.wrap(nil); err != nil {
			t.Errorf("%v: %v", l, err)
		}
	}
}

func TestWrapOfOKIsAnError(t *testing.T) {
	err := fault.Wrap(api.OK, "do", "it", 1)
	if err == nil {
		t.Fatal("none")
	}
	isText(t, err, "do it at 1: souk: error 0")
	isCode(t, err, api.OK, true)
	isOps(t, err, "do")
}

// P4.1: Text.

func TestText(t *testing.T) {
	for _, c := range []struct {
		err  error
		want string
	}{
		{nil, ""},
		{api.ErrFull, "souk: error 44"},
		{api.OK, "souk: error 0"},
		{api.Errno(-3), "souk: error -3"},
		{bare, "bare"},
		{fault.Disk, "disk"},
		{fault.Wrap(api.ErrArg, "op", "", -1), "op: souk: error 1"},
		{fault.Wrap(api.ErrArg, "op", "name", -1), "op name: souk: error 1"},
		{fault.Wrap(api.ErrArg, "op", "", 0), "op at 0: souk: error 1"},
		{fault.Wrap(api.ErrArg, "op", "name", 0), "op name at 0: souk: error 1"},
		{fault.Wrap(api.ErrArg, "op", "", 1), "op at 1: souk: error 1"},
		{fault.Wrap(api.ErrArg, "op", "", math.MaxInt64), "op at 9223372036854775807: souk: error 1"},
		{fault.Wrap(api.ErrArg, "op", "", math.MinInt64), "op: souk: error 1"},
		{fault.Wrap(api.ErrArg, "", "", -1), ": souk: error 1"},
		{fault.Wrap(api.ErrArg, "", "name", -1), " name: souk: error 1"},
		{fault.Wrap(api.ErrArg, "", "", 5), " at 5: souk: error 1"},
		{fault.Wrap(api.ErrArg, "", "name", 5), " name at 5: souk: error 1"},
		{fault.Wrap(api.ErrArg, "op", " ", -1), "op  : souk: error 1"},
		{fault.Wrap(bare, "op", "name", 2), "op name at 2: bare"},
		{fault.Wrap(fault.Market, "op", "name", 2), "op name at 2: market"},
		{fault.Wrap(other{fault.Wrap(api.ErrLow, "in", "", 3)}, "out", "", 4), "out at 4: other: in at 3: souk: error 51"},
		{&fault.Error{Op: "op", Name: "name", At: 6}, "op name at 6: "},
	} {
		isText(t, c.err, c.want)
		if c.err != nil && c.err.Error() != c.want {
			t.Errorf("Error: %q, not %q", c.err.Error(), c.want)
		}
	}
}

// P4.1: Of, and the Classes.

func TestOfEachNumber(t *testing.T) {
	if len(whose()) != 20 {
		t.Fatal("api has 20 numbers, not", len(whose()))
	}
	for _, n := range numbers() {
		// A number that api has not is not in the map: 0, which is None.
		if c := fault.Of(n); c != whose()[n] {
			t.Errorf("Of(%d): %v, not %v", int(n), c, whose()[n])
		}
	}
}

func TestClassIsAnErrorWithAText(t *testing.T) {
	for c, want := range map[fault.Class]string{0: "none", 1: "caller", 2: "bytes", 3: "market", 4: "disk", 5: "", 6: "", 255: ""} {
		isText(t, c, want)
	}
	for i, c := range []fault.Class{fault.None, fault.Caller, fault.Bytes, fault.Market, fault.Disk} {
		if int(c) != i {
			t.Errorf("%v is %d", c, uint8(c))
		}
	}
}

// P4.2: Code, Is, In.

func TestCodeIsTheFirstNumber(t *testing.T) {
	for _, c := range []struct {
		err  error
		want api.Errno
		is   bool
	}{
		{nil, 0, false},
		{bare, 0, false},
		{fault.Wrap(bare, "op", "", -1), 0, false},
		{fault.Disk, 0, false},
		{fault.Wrap(fault.Disk, "op", "", -1), 0, false},
		{other{nil}, 0, false},
		{&fault.Error{}, 0, false},
		{api.OK, api.OK, true},
		{api.ErrLow, api.ErrLow, true},
		{api.Errno(-5), -5, true},
		{api.Errno(math.MaxInt), math.MaxInt, true},
		{fault.Wrap(api.ErrLow, "op", "44", 44), api.ErrLow, true},
		{other{api.ErrLow}, api.ErrLow, true},
		{fault.Wrap(other{fault.Wrap(other{api.ErrGone}, "a", "", 1)}, "b", "", 2), api.ErrGone, true},
		{errors.Join(bare, fault.Wrap(api.ErrCut, "a", "", 1), api.ErrArg), api.ErrCut, true},
		{fault.Wrap(errors.Join(api.ErrArg, api.ErrCut), "a", "", 1), api.ErrArg, true},
	} {
		isCode(t, c.err, c.want, c.is)
	}
}

func TestIsWhatItIsOrWraps(t *testing.T) {
	for _, n := range numbers() {
		for _, m := range numbers() {
			once := fault.Wrap(n, "op", "", 1)
			for _, err := range []error{n, once, fault.Wrap(once, "op", "", 2), other{once}} {
				if fault.Is(err, m) != (n == m) {
					t.Fatalf("Is(%q, %d) is %v", fault.Text(err), m, n != m)
				}
			}
		}
		for _, err := range []error{nil, bare, fault.Wrap(bare, "op", "", int64(n)), fault.Class(n), fault.Wrap(fault.Class(n), "op", "", 1)} {
			if fault.Is(err, n) {
				t.Errorf("%q is %d", fault.Text(err), n)
			}
		}
	}
	both := fault.Wrap(errors.Join(api.ErrArg, fault.Wrap(api.ErrCut, "in", "", 1)), "out", "", 1)
	if !fault.Is(both, api.ErrArg) || !fault.Is(both, api.ErrCut) || fault.Is(both, api.ErrFull) {
		t.Error("it is what it wraps, the second one too")
	}
}

func TestInItsNumbersClass(t *testing.T) {
	for _, n := range numbers() {
		for _, err := range []error{n, fault.Wrap(n, "op", "", 1), fault.Wrap(other{n}, "op", "", 1)} {
			for _, c := range append(classes(), 5, 255) {
				if fault.In(err, c) != (c == whose()[n]) {
					t.Errorf("In(%q, %d) is %v", fault.Text(err), c, c != whose()[n])
				}
			}
		}
	}
}

func TestInNoneWithoutANumber(t *testing.T) {
	l := []error{nil, bare, other{nil}, fault.Wrap(bare, "op", "", 1), &fault.Error{Op: "op"}}
	for _, c := range classes() {
		// A Class as the error has no number either.
		l = append(l, c, fault.Wrap(c, "op", "", 1))
	}
	for _, err := range l {
		for _, c := range classes() {
			if fault.In(err, c) != (c == fault.None) {
				t.Errorf("In(%v, %v) is %v", err, c, c != fault.None)
			}
		}
	}
}

// P4.2: an Error's own Is.

func TestErrorIsItsClassAlone(t *testing.T) {
	for _, n := range numbers() {
		e := &fault.Error{Op: "op", Err: n}
		for _, c := range append(classes(), 5, 255) {
			want := c == whose()[n]
			if e.Is(c) != want || errors.Is(e, c) != want || errors.Is(fault.Wrap(e, "more", "", 1), c) != want {
				t.Errorf("%q is %v: not %v", e.Error(), c, want)
			}
		}
	}
	e := &fault.Error{Op: "op", Err: api.ErrFull}
	for _, target := range []error{nil, e, api.ErrFull, api.Errno(4), bare, other{fault.Disk}, fault.Wrap(fault.Disk, "op", "", 1), (*fault.Error)(nil)} {
		if e.Is(target) {
			t.Errorf("it says that it is %#v", target)
		}
	}
	for _, e := range []*fault.Error{{}, {Err: bare}, {Err: fault.Disk}} {
		if !e.Is(fault.None) || e.Is(fault.Disk) {
			t.Errorf("%q, without a number, is not None", e.Error())
		}
	}
}

func TestErrorIsAllThatItWraps(t *testing.T) {
	e := fault.Wrap(other{fault.Wrap(api.ErrFull, "in", "", 1)}, "out", "", 2)
	for _, target := range []error{e, e.(*fault.Error).Err, api.ErrFull, fault.Disk} {
		if !errors.Is(e, target) {
			t.Errorf("it is not %v", target)
		}
	}
	if errors.Is(e, api.ErrCut) || errors.Is(e, bare) {
		t.Error("it is what it does not wrap")
	}
	if !errors.Is(fault.Wrap(fault.Bytes, "op", "", 1), fault.Bytes) {
		t.Error("it is not the Class that it wraps")
	}
	// But for what wraps it a number is no Class.
	if errors.Is(api.ErrFull, fault.Disk) {
		t.Error("a number is a Class")
	}
}

// P4.2: Ops, Find.

func TestOps(t *testing.T) {
	isOps(t, nil)
	isOps(t, api.ErrArg)
	isOps(t, bare)
	isOps(t, other{bare})
	isOps(t, fault.Disk)
	isOps(t, &fault.Error{}, "")
	isOps(t, fault.Wrap(api.ErrArg, "", "x", 1), "")
	isOps(t, fault.Wrap(fault.Wrap(bare, "a", "", 1), "a", "", 1), "a", "a")
	isOps(t, fault.Wrap(other{other{fault.Wrap(bare, "in", "", 1)}}, "out", "", 1), "out", "in")
	both := errors.Join(fault.Wrap(bare, "b", "", 1), fault.Wrap(fault.Wrap(bare, "d", "", 1), "c", "", 1), bare)
	isOps(t, fault.Wrap(both, "a", "", 1), "a", "b", "c", "d")
}

func TestFind(t *testing.T) {
	err := error(api.ErrCut)
	for _, l := range []layer{{"a", "least", 1}, {"b", "", -1}, {"", "empty", 0}, {"a", "most", math.MaxInt64}, {"c", "", math.MinInt64}} {
		err = l.wrap(err)
	}
	isFound(t, err, "a", "most", math.MaxInt64, true)
	isFound(t, err, "b", "", -1, true)
	isFound(t, err, "", "empty", 0, true)
	isFound(t, err, "c", "", math.MinInt64, true)
	isFound(t, err, "d", "", 0, false)
	isFound(t, err, "A", "", 0, false)
	isFound(t, err, "most", "", 0, false)
	isFound(t, other{err}, "a", "most", math.MaxInt64, true)
	both := errors.Join(fault.Wrap(bare, "a", "x", 1), fault.Wrap(fault.Wrap(bare, "a", "y", 2), "b", "z", 3))
	isFound(t, both, "a", "x", 1, true)
	isFound(t, both, "b", "z", 3, true)
	for _, err := range []error{nil, bare, api.ErrArg, fault.Caller, other{bare}, fault.Wrap(bare, "x", "x", 1)} {
		isFound(t, err, "", "", 0, false)
		isFound(t, err, "a", "", 0, false)
	}
}

// P4.3 (wrapped).

func TestWrappedItIsWhatItWas(t *testing.T) {
	for _, err := range all()[:len(all())-1] {
		n, is := fault.Code(err)
		ops := fault.Ops(err)
		at := err
		for _, l := range layers() {
			inner := at
			at = l.wrap(at)
			isCode(t, at, n, is)
			ops = append([]string{l.op}, ops...)
			isOps(t, at, ops...)
			// Held against each other by what they tell: a joined one may not be by ==.
			if got := errors.Unwrap(at); got == nil || fmt.Sprintf("%p %#v", got, got) != fmt.Sprintf("%p %#v", inner, inner) {
				t.Fatalf("%q wraps %v", at.Error(), got)
			}
			for _, c := range append(classes(), 5) {
				if fault.In(at, c) != fault.In(err, c) {
					t.Fatalf("%q is in %v as it was not", at.Error(), c)
				}
			}
		}
	}
}

func TestWrappedItIsJustTheErrorsThatItWas(t *testing.T) {
	targets := []error{bare, other{bare}, other{api.ErrLow}, &fault.Error{}}
	for _, n := range numbers() {
		targets = append(targets, n)
	}
	for _, err := range kinds() {
		at := err
		for _, l := range layers() {
			at = l.wrap(at)
		}
		for _, target := range targets {
			if errors.Is(at, target) != errors.Is(err, target) {
				t.Fatalf("%q is %v as it was not", at.Error(), target)
			}
			if n, ok := target.(api.Errno); ok && fault.Is(at, n) != fault.Is(err, n) {
				t.Fatalf("Is of %q and %v is not as it was", at.Error(), n)
			}
		}
	}
}

func TestWrappedManyTimes(t *testing.T) {
	const times = 1 << 16
	err := deep(api.ErrGone, times)
	isCode(t, err, api.ErrGone, true)
	if !fault.Is(err, api.ErrGone) || fault.Is(err, api.ErrCut) || !fault.In(err, fault.Disk) || fault.In(err, fault.Market) {
		t.Error("it is not what it was")
	}
	if !errors.Is(err, api.ErrGone) || errors.Is(err, api.ErrCut) || !errors.Is(err, fault.Disk) {
		t.Error("it is not what it was, for errors.Is")
	}
	isFound(t, err, "0", "", 0, true)
	isFound(t, err, strconv.Itoa(times-1), "", times-1, true)
	isFound(t, err, strconv.Itoa(times), "", 0, false)
	ops, text := fault.Ops(err), fault.Text(err)
	if len(ops) != times || ops[0] != strconv.Itoa(times-1) || ops[times-1] != "0" {
		t.Error("Ops")
	}
	if !strings.HasPrefix(text, "65535 at 65535: 65534 at 65534: ") || !strings.HasSuffix(text, ": 1 at 1: 0 at 0: souk: error 52") || strings.Count(text, ": ") != times+1 {
		t.Error("Text")
	}
	if errors.Is(deep(api.ErrGone, 3000), fault.Market) {
		t.Error("it is the Market's")
	}
}

// P4.4 (text).

func TestTextIsThatOfEachOneAheadOfTheOther(t *testing.T) {
	for _, err := range all()[:len(all())-1] {
		want := err.Error()
		for _, l := range append(layers(), layers()...) {
			err, want = l.wrap(err), l.text()+want
			isText(t, err, want)
			if err.Error() != want {
				t.Errorf("Error: %q, not %q", err.Error(), want)
			}
		}
	}
}

// P4.5 (one class).

func TestAnErrorIsInJustOneClass(t *testing.T) {
	for _, err := range all() {
		var in []fault.Class
		for c := range 256 {
			if fault.In(err, fault.Class(c)) {
				in = append(in, fault.Class(c))
			}
		}
		if len(in) != 1 || !slices.Contains(classes(), in[0]) {
			t.Errorf("%q is in %v", fault.Text(err), in)
		}
		if n, _ := fault.Code(err); in[0] != fault.Of(n) {
			t.Errorf("%q, of %d, is in %v", fault.Text(err), n, in)
		}
	}
}

// P4.6 (found).

func TestFoundIsWhatOpsTells(t *testing.T) {
	l := layers()
	for _, start := range all()[:len(all())-1] {
		for from := range l {
			err := start
			outermost := map[string]layer{}
			for _, op := range fault.Ops(err) {
				if name, at, is := fault.Find(err, op); is {
					outermost[op] = layer{op, name, at}
				}
			}
			for i := range l {
				next := l[(from+i)%len(l)]
				err = next.wrap(err)
				outermost[next.op] = next
			}
			for _, op := range append(fault.Ops(err), "no such one", "s1", "x") {
				want, is := outermost[op]
				isFound(t, err, op, want.name, want.at, is)
			}
			if len(outermost) == 0 || len(fault.Ops(err)) < len(outermost) {
				t.Fatalf("Ops of %q: %q", err.Error(), fault.Ops(err))
			}
		}
	}
}

// R1: each call ends, none panics; what is told shares no memory.

// ask asks all that may be asked of an error; it tells its Ops.
func ask(err error) []string {
	fault.Text(err)
	fault.Code(err)
	fault.Find(err, "no such one")
	fault.Is(err, api.ErrFull)
	fault.In(err, fault.Disk)
	if e, ok := err.(*fault.Error); ok {
		_ = e.Error()
		_ = e.Unwrap()
		e.Is(fault.Disk)
	}
	return fault.Ops(err)
}

func TestOfNil(t *testing.T) {
	var e *fault.Error
	if e.Error() != "" || e.Unwrap() != nil {
		t.Error("it has a text, or wraps something")
	}
	for _, target := range []error{nil, e, fault.None, fault.Disk, api.OK} {
		if e.Is(target) {
			t.Errorf("it is %v", target)
		}
	}
	isText(t, e, "")
	isCode(t, e, api.OK, false)
	isOps(t, e)
	isFound(t, e, "", "", 0, false)
	err := fault.Wrap(e, "op", "", 1)
	isText(t, err, "op at 1: ")
	isOps(t, err, "op")
	isCode(t, err, api.OK, false)
}

func TestWhatPanicsIsCaught(t *testing.T) {
	for _, wrong := range []error{&broken{}, (*broken)(nil), other{&broken{}}, errors.Join(&broken{}, bare)} {
		if ops := ask(wrong); len(ops) > 0 {
			t.Errorf("%T was wrapped with %q", wrong, ops)
		}
		err := fault.Wrap(fault.Wrap(wrong, "in", "x", 1), "out", "", 2)
		if ops := ask(err); !slices.Equal(ops, []string{"out", "in"}) {
			t.Errorf("%T was wrapped with %q", wrong, ops)
		}
		isFound(t, err, "in", "x", 1, true)
		isCode(t, err, api.OK, false)
		if fault.Is(err, api.ErrFull) || fault.In(err, fault.Disk) || !fault.In(err, fault.None) {
			t.Errorf("%T has a number", wrong)
		}
	}
	isText(t, fault.Wrap(&broken{}, "op", "", 1), "op at 1: ")
}

func TestARingEnds(t *testing.T) {
	for size := 1; size < 20; size++ {
		for ahead := range 20 {
			first := &fault.Error{Op: "0"}
			last := deep(first, size-1)
			first.Err = last
			err := deep(last, ahead)
			want := map[string]bool{}
			for i := range max(size-1, ahead) {
				want[strconv.Itoa(i)] = true
			}
			want["0"] = true
			ops := ask(err)
			for _, op := range ops {
				if !want[op] {
					t.Fatalf("Ops of a ring: %q", ops)
				}
			}
			for op := range want {
				if !slices.Contains(ops, op) {
					t.Fatalf("Ops of a ring: %q, without %q", ops, op)
				}
			}
			isCode(t, err, api.OK, false)
		}
	}
}

func TestOpsIsNewMemory(t *testing.T) {
	err := fault.Wrap(fault.Wrap(bare, "in", "", 1), "out", "", 2)
	l := fault.Ops(err)
	clear(l)
	isOps(t, err, "out", "in")
	isText(t, err, "out at 2: in at 1: bare")
}

func TestWhatIsJoinedStays(t *testing.T) {
	parts := []error{fault.Wrap(bare, "a", "", 1), fault.Wrap(bare, "b", "", 1), nil}
	err := joined(parts[:2])
	isOps(t, err, "a", "b")
	isOps(t, errors.Join(err, fault.Wrap(bare, "c", "", 1)), "a", "b", "c")
	isOps(t, joined(parts), "a", "b")
	if fault.Ops(parts[0])[0] != "a" || fault.Ops(parts[1])[0] != "b" || parts[2] != nil {
		t.Error("it is another one")
	}
}

// joined is an error that hands out the very list of what it wraps.
type joined []error

func (j joined) Error() string   { return "joined" }
func (j joined) Unwrap() []error { return j }
