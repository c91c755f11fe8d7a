package seglog_test

import (
	"fmt"
	"math"
	"slices"
	"strings"
	"testing"

	"souk/api"
	"souk/disk"
	"souk/manif"
	"souk/seglog"
)

// cfg is a Config.
func cfg(size, every int) api.Config { return api.Config{SegSize: size, Every: every, V: 3} }

// whole is a Config, of all its fields.
func whole(size, every int, v uint8) api.Config {
	return api.Config{SegSize: size, Every: every, V: v}
}

// data is a file that stands for good.
func data(name, bytes string) api.File { return api.File{Name: name, Data: bytes} }

// pending is a file with bytes behind those that stand for good.
func pending(name, bytes, more string) api.File {
	return api.File{Name: name, Data: bytes, Pending: more}
}

// sorted are files by rising names.
func sorted(l ...api.File) []api.File {
	return slices.SortedFunc(slices.Values(l), func(a, b api.File) int { return strings.Compare(a.Name, b.Name) })
}

// holding is a disk with files.
func holding(t *testing.T, capacity int, l ...api.File) *disk.Disk {
	t.Helper()
	d, e := disk.Load(capacity, sorted(l...))
	if e != api.OK {
		t.Fatalf("Load: %d", e)
	}
	return d
}

// used is how many bytes files have.
func used(l ...api.File) int {
	n := 0
	for _, f := range l {
		n += len(f.Data) + len(f.Pending)
	}
	return n
}

// filled are n files that are none of a log's.
func filled(n int) []api.File {
	var l []api.File
	for i := range n {
		l = append(l, data(fmt.Sprintf("f%02d", i), "x"))
	}
	return l
}

// texts are payloads of so many bytes.
func texts(sizes ...int) []string {
	var l []string
	for i, n := range sizes {
		l = append(l, strings.Repeat(string(rune('a'+i%26)), n))
	}
	return l
}

// begun is a disk, and the log that is begun on it.
func begun(t *testing.T, capacity int, first int64, c api.Config) (*disk.Disk, *seglog.Log) {
	t.Helper()
	d := holding(t, capacity)
	l, e := seglog.Init(d, first, c)
	if e != api.OK || l == nil {
		t.Fatalf("Init(%d, %v): %v, %d", first, c, l, e)
	}
	return d, l
}

// opened is the log of a disk, which must be.
func opened(t *testing.T, d *disk.Disk, c api.Config) *seglog.Log {
	t.Helper()
	l, e := seglog.Open(d, c)
	if e != api.OK || l == nil {
		t.Fatalf("Open(%v): %v, %d", c, l, e)
	}
	return l
}

// appends puts payloads into a log, which must be.
func appends(t *testing.T, l *seglog.Log, payloads ...string) {
	t.Helper()
	for _, p := range payloads {
		want := l.Next()
		if seq, e := l.Append(p); seq != want || e != api.OK {
			t.Fatalf("Append(%.20q, %d bytes): %d, %d, not %d", p, len(p), seq, e, want)
		}
		if l.Next() != want+1 {
			t.Fatalf("Next: %d behind %d", l.Next(), want)
		}
	}
}

// syncs syncs a log, which must be.
func syncs(t *testing.T, l *seglog.Log) {
	t.Helper()
	if e := l.Sync(); e != api.OK {
		t.Fatalf("Sync: %d", e)
	}
}

// files says what is wrong with a disk's files.
func files(t *testing.T, d *disk.Disk, want ...api.File) {
	t.Helper()
	if l := d.Files(); !slices.Equal(l, sorted(want...)) {
		t.Errorf("files %.999q, not %.999q", l, sorted(want...))
	}
}

// segs says what is wrong with a log's segments: of each its generation and its
// first batch.
func segs(t *testing.T, l *seglog.Log, gen int64, pairs ...int64) {
	t.Helper()
	m := l.Segs()
	var got []int64
	for _, x := range m.Segs {
		got = append(got, x.Gen, x.First)
	}
	if m.Gen != gen || !slices.Equal(got, pairs) {
		t.Errorf("Segs: %d, %d, not %d, %d", m.Gen, got, gen, pairs)
	}
}

// reads says what is wrong with how a batch is read.
func reads(t *testing.T, l *seglog.Log, seq int64, want string, err api.Errno) {
	t.Helper()
	if s, e := l.Read(seq); s != want || e != err {
		t.Errorf("Read(%d): %.40q, %d, not %.40q, %d", seq, s, e, want, err)
	}
}

// ranges says what is wrong with how batches are told.
func ranges(t *testing.T, l *seglog.Log, a, b int64, want []string, err api.Errno) {
	t.Helper()
	if got, e := l.Range(a, b); !slices.Equal(got, want) || e != err {
		t.Errorf("Range(%d, %d): %.99q, %d, not %.99q, %d", a, b, got, e, want, err)
	}
}

// tells says what is wrong with what a log tells, that has these batches.
func tells(t *testing.T, l *seglog.Log, first int64, payloads ...string) {
	t.Helper()
	next := first + int64(len(payloads))
	if l.First() != first || l.Next() != next {
		t.Fatalf("from %d to %d, not from %d to %d", l.First(), l.Next(), first, next)
	}
	for i, p := range payloads {
		reads(t, l, first+int64(i), p, api.OK)
	}
	reads(t, l, next, "", api.ErrNone)
	reads(t, l, -1, "", api.ErrNone)
	ranges(t, l, first, next, payloads, api.OK)
}

// laid is a disk with a manifest of a generation, and segments of generation 0,
// each from the first batch that is said on.
func laid(t *testing.T, gen int64, l ...part) *disk.Disk {
	t.Helper()
	return holding(t, 1<<20, laidFiles(gen, l...)...)
}

// part is a segment's first batch, and its payloads.
type part struct {
	first    int64
	payloads []string
}

// laidFiles are the files of such a disk.
func laidFiles(gen int64, l ...part) []api.File {
	var all []api.File
	var pairs []int64
	for _, x := range l {
		all = append(all, data(called(0, x.first), segment(x.first, x.payloads...)))
		pairs = append(pairs, 0, x.first)
	}
	return sorted(append(all, data("MANIFEST", manifest(gen, pairs...)))...)
}

// three are three segments, of two, one and two batches, from 4 on.
func three() []part {
	return []part{{4, texts(20, 10)}, {6, texts(30)}, {7, texts(1, 2)}}
}

// changed are files of which one has other bytes.
func changed(l []api.File, name string, change func(string) string) []api.File {
	l = slices.Clone(l)
	for i := range l {
		if l[i].Name == name {
			l[i].Data = change(l[i].Data)
		}
	}
	return l
}

// without are files without one.
func without(l []api.File, name string) []api.File {
	return slices.DeleteFunc(slices.Clone(l), func(f api.File) bool { return f.Name == name })
}

// noInit says what is wrong with how Init refuses.
func noInit(t *testing.T, d *disk.Disk, first int64, c api.Config, want api.Errno) {
	t.Helper()
	if l, e := seglog.Init(d, first, c); l != nil || e != want {
		t.Errorf("Init(%d, %v): %v, %d, not %d", first, c, l, e, want)
	}
}

// noOpen says what is wrong with how Open refuses.
func noOpen(t *testing.T, d *disk.Disk, c api.Config, want api.Errno) {
	t.Helper()
	if l, e := seglog.Open(d, c); l != nil || e != want {
		t.Errorf("Open(%v): %v, %d, not %d", c, l, e, want)
	}
}

// noAppend says what is wrong with how Append refuses.
func noAppend(t *testing.T, l *seglog.Log, payload string, want api.Errno) {
	t.Helper()
	if seq, e := l.Append(payload); seq != 0 || e != want {
		t.Errorf("Append of %d bytes: %d, %d, not %d", len(payload), seq, e, want)
	}
}

// P14.1: MayConfig.

// mayConfigs are Configs that may be, noConfigs some that may not be.
func mayConfigs() []api.Config {
	return []api.Config{whole(64, 1, 1), whole(64, 1, 2), whole(64, 1, 3), whole(64, 64, 1), whole(65536, 1, 3), whole(65536, 64, 3), whole(65, 2, 2), whole(65535, 63, 2), whole(4096, 16, 3)}
}

func noConfigs() []api.Config {
	return []api.Config{
		whole(0, 0, 0), whole(63, 1, 1), whole(65537, 1, 1), whole(0, 1, 1), whole(-64, 1, 1), whole(math.MinInt, 1, 1), whole(math.MaxInt, 1, 1),
		whole(64, 0, 1), whole(64, 65, 1), whole(64, -1, 1), whole(64, math.MinInt, 1), whole(64, math.MaxInt, 1), whole(65536, 0, 3), whole(65536, 65, 3),
		whole(64, 1, 0), whole(64, 1, 4), whole(64, 1, 255), whole(65536, 64, 0), whole(65536, 64, 4), whole(63, 0, 0), whole(65537, 65, 4),
		whole(64+1<<32, 1, 1), whole(64, 1+1<<32, 1),
	}
}

func TestMayConfig(t *testing.T) {
	for _, c := range mayConfigs() {
		if !seglog.MayConfig(c) {
			t.Errorf("MayConfig(%v): no", c)
		}
	}
	for _, c := range noConfigs() {
		if seglog.MayConfig(c) {
			t.Errorf("MayConfig(%v): yes", c)
		}
	}
	for size := 60; size <= 70; size++ {
		for every := -1; every <= 67; every++ {
			for v := range uint8(6) {
				c := api.Config{SegSize: size, Every: every, V: v}
				if got := seglog.MayConfig(c); got != (size >= 64 && every >= 1 && every <= 64 && v >= 1 && v <= 3) {
					t.Errorf("MayConfig(%v): %v", c, got)
				}
			}
		}
	}
}

// P14.1: Init.

func TestABegunLog(t *testing.T) {
	for _, c := range mayConfigs() {
		for _, first := range []int64{0, 1, 7, 258, maxSeq - 1, maxSeq} {
			d, l := begun(t, 1000, first, c)
			files(t, d, data("MANIFEST", manifest(0, 0, first)), data(called(0, first), header(first)))
			tells(t, l, first)
			segs(t, l, 0, 0, first)
			if l.Config() != c {
				t.Errorf("Config: %v, not %v", l.Config(), c)
			}
			tells(t, opened(t, d, c), first)
		}
	}
}

func TestBegunAllOtherFilesGo(t *testing.T) {
	old := laidFiles(0, three()...)
	for _, l := range [][]api.File{
		filled(1), filled(10), filled(maxFiles), {data("MANIFEST.new", "x")}, {pending("a", "b", "c"), pending("s00000000-0000000000", "", "zz")},
		{data(called(0, 0), segment(0, "old", "older")), data("SNAPSHOT.new", ""), data("n0000000003", "yes")}, without(old, "MANIFEST"),
	} {
		d := holding(t, 1000, l...)
		x, e := seglog.Init(d, 5, cfg(64, 1))
		if e != api.OK {
			t.Fatalf("Init: %d", e)
		}
		files(t, d, data("MANIFEST", manifest(0, 0, 5)), data(called(0, 5), header(5)))
		tells(t, x, 5)
	}
}

func TestBegunWithJustEnough(t *testing.T) {
	for _, l := range [][]api.File{nil, filled(3), filled(maxFiles)} {
		for capacity := used(l...); capacity <= 70; capacity++ {
			d := holding(t, capacity, l...)
			log, e := seglog.Init(d, 0, cfg(64, 1))
			if capacity >= 50 {
				if e != api.OK || log.Next() != 0 || d.Used() != 50 || d.Capacity() != capacity {
					t.Errorf("Init of %d: %d", capacity, e)
				}
				continue
			}
			if log != nil || e != api.ErrFull || !d.Up() {
				t.Errorf("Init of %d: %v, %d", capacity, log, e)
			}
			files(t, d)
		}
	}
}

// The errors' table, row of Init.

func TestInitRefuses(t *testing.T) {
	c := cfg(64, 1)
	noInit(t, nil, 0, c, api.ErrNil)
	noInit(t, nil, -1, api.Config{}, api.ErrNil)

	full := holding(t, 1000, data("MANIFEST", ""), data("x", "y"))
	before := full.Files()
	for _, bad := range noConfigs() {
		noInit(t, full, 0, bad, api.ErrArg)
	}
	for _, first := range []int64{-1, maxSeq + 1, math.MinInt64, math.MaxInt64, 1 << 32} {
		noInit(t, full, first, c, api.ErrArg)
	}
	for _, first := range []int64{0, 7, maxSeq} {
		noInit(t, full, first, c, api.ErrTwice)
	}
	files(t, full, before...)

	for _, is := range []string{"", "x", manifest(0, 0, 0)} {
		d := holding(t, 10+len(is), data("MANIFEST", is), data("a", "b"))
		noInit(t, d, 0, c, api.ErrTwice)
		d.Cut(0)
		noInit(t, d, 0, c, api.ErrTwice)
		if !d.Up() {
			t.Error("the power is gone by what was not done")
		}
		d.Create("gone")
		noInit(t, d, 0, c, api.ErrCut)
		noInit(t, d, -1, c, api.ErrArg)
		noInit(t, d, 0, cfg(63, 1), api.ErrArg)
		files(t, d, data("MANIFEST", is), data("a", "b"))
	}

	gone := holding(t, 20, data("a", "b"))
	gone.Cut(0)
	gone.Create("gone")
	noInit(t, gone, 0, c, api.ErrCut)
	files(t, gone, data("a", "b"))
}

func TestInitOfADiskThatNobodyMade(t *testing.T) {
	var d disk.Disk
	noInit(t, &d, 0, cfg(64, 1), api.ErrFull)
	files(t, &d)
}

// P14.1: Open.

func TestAnOpenedLog(t *testing.T) {
	c := cfg(100, 2)
	d := laid(t, 3, three()...)
	before := d.Files()
	l := opened(t, d, c)
	tells(t, l, 4, slices.Concat(texts(20, 10), texts(30), texts(1, 2))...)
	segs(t, l, 3, 0, 4, 0, 6, 0, 7)
	if l.Config() != c {
		t.Errorf("Config: %v", l.Config())
	}
	files(t, d, before...)
	appends(t, l, "more")
	tells(t, l, 4, slices.Concat(texts(20, 10), texts(30), texts(1, 2), []string{"more"})...)
}

func TestOpenedWithEachConfig(t *testing.T) {
	d, l := begun(t, 20000, 3, cfg(200, 5))
	var all []string
	dice := dice(3)
	for range 70 {
		all = append(all, dice.text(1+dice.below(40)))
	}
	appends(t, l, all...)
	for _, c := range mayConfigs() {
		own := d.Copy()
		l := opened(t, own, c)
		tells(t, l, 3, all...)
		if l.Config() != c {
			t.Errorf("Config: %v, not %v", l.Config(), c)
		}
		files(t, own, d.Files()...)
	}
	for _, c := range noConfigs() {
		noOpen(t, d, c, api.ErrArg)
	}
}

func TestOpenedItGoesOnInItsSegment(t *testing.T) {
	d, l := begun(t, 2000, 0, cfg(100, 1))
	appends(t, l, texts(20)...)
	l = opened(t, d, cfg(100, 1))
	appends(t, l, texts(32)...)
	segs(t, l, 0, 0, 0)
	appends(t, l, texts(1)...)
	segs(t, l, 0, 0, 0, 0, 2)
	// A smaller size than the open segment has: it is rotated.
	l = opened(t, d, cfg(65536, 1))
	appends(t, l, texts(500)...)
	segs(t, l, 0, 0, 0, 0, 2)
	l = opened(t, d, cfg(64, 1))
	appends(t, l, "z")
	segs(t, l, 0, 0, 0, 0, 2, 0, 4)
	tells(t, l, 0, slices.Concat(texts(20), texts(32), texts(1), texts(500), []string{"z"})...)
}

func TestOpenedWithAManifestThatWasNotSwapped(t *testing.T) {
	for _, left := range []api.File{data("MANIFEST.new", ""), data("MANIFEST.new", manifest(3, 0, 4)), pending("MANIFEST.new", "ab", "cd")} {
		d := holding(t, 1<<20, append(laidFiles(3, three()...), left)...)
		tells(t, opened(t, d, cfg(64, 1)), 4, slices.Concat(texts(20, 10), texts(30), texts(1, 2))...)
		files(t, d, laidFiles(3, three()...)...)
	}
}

func TestOpenedWithSegmentsThatAreNoneOfTheManifest(t *testing.T) {
	kept := append(laidFiles(3, three()...), data("a", "b"), pending("n0000000005", "x", "y"), data("s3-17", "x"), data("s00000000-000000000", ""),
		data("s00000000-0000000004.", ""), data("s00000000-0001048577", ""), data("S00000000-0000000004", ""), data("x00000000-0000000004", ""), data("SNAPSHOT.new", ""), data("MANIFEST.old", ""))
	d := holding(t, 1<<20, append(kept, data(called(0, 9), header(9)), data(called(0, 0), ""), data(called(1, 4), segment(4, "other")), pending(called(3, 6), "", "z"),
		data(called(4, 7), "x"), data(called(maxGen, maxSeq), ""), data("MANIFEST.new", ""))...)
	tells(t, opened(t, d, cfg(64, 1)), 4, slices.Concat(texts(20, 10), texts(30), texts(1, 2))...)
	files(t, d, kept...)
}

func TestWhatGoesGoesByRisingNames(t *testing.T) {
	left := []api.File{data("MANIFEST.new", "x"), data(called(0, 0), "x"), data(called(0, 9), "x"), data(called(1, 4), "x"), data(called(2, 0), "x")}
	for cut := range len(left) + 1 {
		d := holding(t, 1<<20, append(laidFiles(3, three()...), left...)...)
		d.Cut(cut)
		want := api.ErrCut
		if cut == len(left) {
			want = api.OK
		}
		if l, e := seglog.Open(d, cfg(64, 1)); e != want || (l != nil) != (e == api.OK) {
			t.Errorf("Cut(%d): %v, %d", cut, l, e)
		}
		files(t, d, append(laidFiles(3, three()...), left[cut:]...)...)
	}
}

func TestOpenedWhatIsTornIsTrimmed(t *testing.T) {
	all := slices.Concat(texts(20, 10), texts(30), texts(1, 2))
	name, whole := called(0, 7), segment(7, texts(1, 2)...)
	one := segment(7, texts(1)...)
	for torn, good := range map[string]string{
		whole: whole, whole + "x": whole, whole + strings.Repeat("\x00", 40): whole, whole + framed(9, "abc")[:18]: whole, whole + framed(10, "abc"): whole,
		whole + framed(7, "abc"): whole, whole[:len(whole)-1]: one, one: one, one + "x" + framed(8, "abc"): one, whole[:16]: whole[:16], whole[:17]: whole[:16],
		one + strings.Repeat("\xff", 20): one, one[:len(one)-1] + framed(7, "abc"): whole[:16],
	} {
		for _, synced := range []int{0, 16, len(torn)} {
			l := append(without(laidFiles(3, three()...), name), pending(name, torn[:synced], torn[synced:]))
			d := holding(t, 1<<20, l...)
			log := opened(t, d, cfg(64, 1))
			payloads, _ := slowScan(good, 7)
			tells(t, log, 4, append(all[:3:3], payloads...)...)
			if good == torn {
				files(t, d, l...)
			} else {
				files(t, d, append(without(l, name), data(name, good))...)
			}
			// What comes behind is not torn: it is there, opened again.
			appends(t, log, "behind")
			tells(t, opened(t, d, cfg(64, 1)), 4, append(append(all[:3:3], payloads...), "behind")...)
		}
	}
}

func TestBatchesBehindTheTornBytesDoNotComeBack(t *testing.T) {
	name := called(0, 7)
	one, behind := segment(7, "a"), framed(9, "third")+framed(10, "fourth")
	torn := framed(8, "second")
	for n := range len(torn) {
		l := append(without(laidFiles(3, three()...), name), data(name, one+torn[:n]+behind))
		d := holding(t, 1<<20, l...)
		log := opened(t, d, cfg(300, 1))
		appends(t, log, "second")
		tells(t, log, 4, slices.Concat(texts(20, 10), texts(30), []string{"a", "second"})...)
		tells(t, opened(t, d, cfg(300, 1)), 4, slices.Concat(texts(20, 10), texts(30), []string{"a", "second"})...)
	}
}

func TestWhatIsPendingIsReadToo(t *testing.T) {
	l := laidFiles(3, three()...)
	for i, f := range l {
		for _, n := range []int{0, 5, len(f.Data)} {
			own := slices.Clone(l)
			own[i] = pending(f.Name, f.Data[:n], f.Data[n:])
			d := holding(t, 1<<20, own...)
			tells(t, opened(t, d, cfg(64, 1)), 4, slices.Concat(texts(20, 10), texts(30), texts(1, 2))...)
			files(t, d, own...)
		}
	}
}

// The errors' table, row of Open.

func TestOpenRefuses(t *testing.T) {
	c := cfg(64, 1)
	noOpen(t, nil, c, api.ErrNil)
	noOpen(t, nil, api.Config{}, api.ErrNil)
	noOpen(t, &disk.Disk{}, c, api.ErrNone)
	empty := holding(t, 100)
	noOpen(t, empty, c, api.ErrNone)
	noOpen(t, empty, cfg(63, 1), api.ErrArg)
	for s, want := range map[string]api.Errno{
		"": api.ErrShort, "man": api.ErrShort, "man1": api.ErrSum, summed(""): api.ErrForm, summed("man1"): api.ErrForm, manifest(0): api.ErrForm,
		manifest(0, 1, 0): api.ErrForm, manifest(0, 0, 7, 0, 7): api.ErrForm, manifest(0, 0, maxSeq+1): api.ErrForm, manifest(0, 0, 4)[1:]: api.ErrSum, header(4): api.ErrForm,
	} {
		l := append(without(laidFiles(3, three()...), "MANIFEST"), data("MANIFEST", s), data("MANIFEST.new", "x"), data(called(0, 0), "x"))
		d := holding(t, 1<<20, l...)
		noOpen(t, d, c, want)
		noOpen(t, d, cfg(64, 65), api.ErrArg)
		// What the manifest is comes ahead of what is deleted.
		files(t, d, l...)
	}
	none := holding(t, 1000, append(without(laidFiles(3, three()...), "MANIFEST"), data("MANIFEST.new", manifest(3, 0, 4)))...)
	before := none.Files()
	noOpen(t, none, c, api.ErrNone)
	files(t, none, before...)
}

func TestOpenOfADiskThatIsGone(t *testing.T) {
	for _, l := range [][]api.File{nil, laidFiles(3, three()...), {data("MANIFEST", "x")}, append(laidFiles(3, three()...), data("MANIFEST.new", ""))} {
		d := holding(t, 1<<20, l...)
		d.Cut(0)
		d.Create("gone")
		noOpen(t, d, cfg(64, 1), api.ErrCut)
		noOpen(t, d, cfg(64, 0), api.ErrArg)
		files(t, d, l...)
	}
}

// spoilt says how Open refuses of three segments, of which one is another one:
// what goes is gone by then.
func spoilt(t *testing.T, want api.Errno, l ...api.File) {
	t.Helper()
	d := holding(t, 1<<20, append(l, data("MANIFEST.new", "x"), data(called(0, 0), "x"))...)
	noOpen(t, d, cfg(64, 1), want)
	files(t, d, l...)
	noOpen(t, d, cfg(64, 1), want)
	files(t, d, l...)
}

func TestASegmentThatIsMissing(t *testing.T) {
	l := laidFiles(3, three()...)
	for _, name := range []string{called(0, 4), called(0, 6), called(0, 7)} {
		spoilt(t, api.ErrForm, without(l, name)...)
	}
	spoilt(t, api.ErrForm, data("MANIFEST", manifest(0, 0, 5)))
	// Of another generation it is none of the manifest's, and goes.
	d := holding(t, 1000, data("MANIFEST", manifest(1, 1, 4)), data(called(0, 4), segment(4, "a")))
	noOpen(t, d, cfg(64, 1), api.ErrForm)
	files(t, d, data("MANIFEST", manifest(1, 1, 4)))
}

func TestASegmentWhoseHeaderIsWrong(t *testing.T) {
	l := laidFiles(3, three()...)
	for _, first := range []int64{4, 6, 7} {
		name := called(0, first)
		for n := range 16 {
			spoilt(t, api.ErrForm, changed(l, name, func(s string) string { return s[:n] })...)
		}
		for bit := range 128 {
			spoilt(t, api.ErrForm, changed(l, name, func(s string) string {
				b := []byte(s)
				b[bit/8] ^= 1 << (bit % 8)
				return string(b)
			})...)
		}
		for _, other := range []int64{0, 3, first - 1, first + 1, first + 256, maxSeq, maxSeq + 1} {
			spoilt(t, api.ErrForm, changed(l, name, func(s string) string { return header(other) + s[16:] })...)
			spoilt(t, api.ErrForm, changed(l, name, func(s string) string { return segment(other, "a", "b") })...)
		}
	}
}

func TestASegmentButTheLastOneThatIsTorn(t *testing.T) {
	l := laidFiles(3, three()...)
	for _, first := range []int64{4, 6} {
		name := called(0, first)
		size := len(changed(l, name, func(s string) string { return s })[first/6+1].Data)
		for n := 17; n < size; n++ {
			// Cut where a frame ends it is whole, but ends too early.
			want := api.ErrSum
			if first == 4 && n == 16+36 {
				want = api.ErrForm
			}
			spoilt(t, want, changed(l, name, func(s string) string { return s[:n] })...)
		}
		for _, more := range []string{"x", "\x00", strings.Repeat("\x00", 40), framed(99, "a"), framed(first, "a")} {
			spoilt(t, api.ErrSum, changed(l, name, func(s string) string { return s + more })...)
		}
		for bit := 128; bit < 8*size; bit++ {
			spoilt(t, api.ErrSum, changed(l, name, func(s string) string {
				b := []byte(s)
				b[bit/8] ^= 1 << (bit % 8)
				return string(b)
			})...)
		}
	}
}

func TestASegmentThatEndsTooEarlyOrTooLate(t *testing.T) {
	l := laidFiles(3, three()...)
	for name, others := range map[string][]string{
		called(0, 4): {segment(4), segment(4, "a"), segment(4, "a", "b", "c"), segment(4, "a", "b", "c", "d")},
		called(0, 6): {segment(6), segment(6, "a", "b"), segment(6, "a", "b", "c", "d")},
	} {
		for _, other := range others {
			spoilt(t, api.ErrForm, changed(l, name, func(string) string { return other })...)
		}
	}
	// The last one may end anywhere.
	for _, other := range []string{segment(7), segment(7, "a"), segment(7, texts(1, 2, 3, 4)...)} {
		d := holding(t, 1<<20, changed(l, called(0, 7), func(string) string { return other })...)
		payloads, _ := slowScan(other, 7)
		tells(t, opened(t, d, cfg(64, 1)), 4, slices.Concat(texts(20, 10), texts(30), payloads)...)
	}
}

func TestTheFirstSegmentThatIsWrongCounts(t *testing.T) {
	l := laidFiles(3, three()...)
	torn := func(s string) string { return s + "x" }
	early := func(s string) string { return s[:16] }
	earlyTorn := func(s string) string { return s[:16] + "x" }
	headless := func(s string) string { return "x" + s }
	for _, c := range []struct {
		first, second func(string) string
		want          api.Errno
	}{
		{torn, headless, api.ErrSum}, {headless, torn, api.ErrForm}, {early, torn, api.ErrForm}, {torn, early, api.ErrSum}, {earlyTorn, torn, api.ErrSum}, {earlyTorn, early, api.ErrSum},
	} {
		spoilt(t, c.want, changed(changed(l, called(0, 4), c.first), called(0, 6), c.second)...)
		spoilt(t, c.want, without(changed(changed(l, called(0, 4), c.first), called(0, 6), c.second), called(0, 7))...)
	}
	spoilt(t, api.ErrSum, without(changed(l, called(0, 4), torn), called(0, 6))...)
	// Nothing is trimmed, if one ahead is wrong.
	spoilt(t, api.ErrSum, changed(changed(l, called(0, 6), torn), called(0, 7), torn)...)
}

func TestThePowerGoesAtTheTrimming(t *testing.T) {
	l := changed(laidFiles(3, three()...), called(0, 7), func(s string) string { return s + "torn" })
	d := holding(t, 1<<20, l...)
	d.Cut(0)
	noOpen(t, d, cfg(64, 1), api.ErrCut)
	if d.Up() {
		t.Error("the power is there")
	}
	files(t, d, l...)
	// Where nothing is done the power stays.
	d = laid(t, 3, three()...)
	d.Cut(0)
	opened(t, d, cfg(64, 1))
	if !d.Up() {
		t.Error("the power is gone")
	}
}

// P14.1: of nil.

func TestNil(t *testing.T) {
	var l *seglog.Log
	if l.First() != 0 || l.Next() != 0 || l.Config() != (api.Config{}) {
		t.Errorf("%d, %d, %v", l.First(), l.Next(), l.Config())
	}
	segs(t, l, 0)
	for _, p := range []string{"", "a", strings.Repeat("a", maxPayload+1)} {
		noAppend(t, l, p, api.ErrNil)
	}
	if e := l.Sync(); e != api.ErrNil {
		t.Errorf("Sync: %d", e)
	}
	for _, seq := range []int64{-1, 0, 1, math.MaxInt64} {
		reads(t, l, seq, "", api.ErrNil)
		ranges(t, l, seq, seq, nil, api.ErrNil)
		ranges(t, l, seq, 0, nil, api.ErrNil)
	}
}

func TestALogThatNobodyOpened(t *testing.T) {
	var l seglog.Log
	if l.First() != 0 || l.Next() != 0 || l.Config() != (api.Config{}) {
		t.Errorf("%d, %d, %v", l.First(), l.Next(), l.Config())
	}
	segs(t, &l, 0)
	noAppend(t, &l, "", api.ErrForm)
	noAppend(t, &l, "a", api.ErrNil)
	if e := l.Sync(); e != api.ErrNil {
		t.Errorf("Sync: %d", e)
	}
	reads(t, &l, 0, "", api.ErrNone)
	reads(t, &l, -1, "", api.ErrNone)
	ranges(t, &l, 0, 0, nil, api.OK)
	ranges(t, &l, 0, 1, nil, api.ErrNone)
}

// P14.2: Append.

func TestABatchMore(t *testing.T) {
	d, l := begun(t, 100000, 5, cfg(20000, 3))
	all := []string{"a", "\x00", strings.Repeat("x", maxPayload), "\xff\xfe", strings.Repeat("\x00", 100), "seg1", header(5), framed(5, "a")}
	for i, p := range all {
		appends(t, l, p)
		files(t, d, data("MANIFEST", manifest(0, 0, 5)), pending(called(0, 5), header(5), segment(5, all[:i+1]...)[16:]))
		tells(t, l, 5, all[:i+1]...)
		segs(t, l, 0, 0, 5)
	}
}

func TestWhatJustGoesIntoTheOpenSegment(t *testing.T) {
	for _, size := range []int{64, 65, 100, 4096, 65536} {
		for _, more := range []int{0, 1} {
			d, l := begun(t, 200000, 0, cfg(size, 1))
			payloads := texts(4)
			left := size - 16 - 20
			for left > maxPayload+16+20 {
				payloads = append(payloads, strings.Repeat("y", maxPayload))
				left -= maxPayload + 16
			}
			if left > maxPayload+16 {
				payloads = append(payloads, "z")
				left -= 17
			}
			last := strings.Repeat("l", left-16+more)
			appends(t, l, payloads...)
			segs(t, l, 0, 0, 0)
			appends(t, l, last)
			n := int64(len(payloads))
			if more == 0 {
				segs(t, l, 0, 0, 0)
				if s, _ := d.Read(called(0, 0)); len(s) != size {
					t.Errorf("%d bytes, not %d", len(s), size)
				}
			} else {
				segs(t, l, 0, 0, 0, 0, n)
			}
			tells(t, l, 0, append(payloads, last)...)
			tells(t, opened(t, d, cfg(size, 1)), 0, append(payloads, last)...)
		}
	}
}

func TestOneAloneThatIsLongerThanASegment(t *testing.T) {
	d, l := begun(t, 100000, 0, cfg(64, 1))
	all := texts(maxPayload, 49, 48, 1, maxPayload, 33, 10)
	appends(t, l, all[0])
	// An open segment without frames is never rotated.
	segs(t, l, 0, 0, 0)
	appends(t, l, all[1:]...)
	segs(t, l, 0, 0, 0, 0, 1, 0, 2, 0, 3, 0, 4, 0, 5, 0, 6)
	tells(t, l, 0, all...)
	tells(t, opened(t, d, cfg(64, 1)), 0, all...)
}

func TestARotation(t *testing.T) {
	d := holding(t, 1000, laidFiles(3, part{7, texts(20)})...)
	l := opened(t, d, cfg(80, 1))
	appends(t, l, texts(12)[0])
	files(t, d, data("MANIFEST", manifest(3, 0, 7)), pending(called(0, 7), segment(7, texts(20)...), framed(8, texts(12)[0])))
	appends(t, l, "b")
	// The new segment has the manifest's generation; the one that was open is synced.
	files(t, d, data("MANIFEST", manifest(3, 0, 7, 3, 9)), data(called(0, 7), segment(7, texts(20)[0], texts(12)[0])), pending(called(3, 9), header(9), framed(9, "b")))
	segs(t, l, 3, 0, 7, 3, 9)
	tells(t, l, 7, texts(20)[0], texts(12)[0], "b")
}

func TestUpToAllFilesThatMayBe(t *testing.T) {
	d, l := begun(t, 1<<20, 0, cfg(80, 1))
	var all []string
	for i := range 62 {
		all = append(all, strings.Repeat(string(rune('0'+i)), 30))
	}
	appends(t, l, all...)
	if n := len(l.Segs().Segs); n != 62 {
		t.Fatalf("%d segments", n)
	}
	// 63 files are there: a rotation needs two more.
	before := d.Files()
	noAppend(t, l, all[0], api.ErrFull)
	noAppend(t, l, strings.Repeat("x", 3), api.ErrFull)
	files(t, d, before...)
	appends(t, l, "xy")
	tells(t, l, 0, append(all, "xy")...)
	if n := len(l.Segs().Segs); n != 62 {
		t.Errorf("%d segments", n)
	}
	tells(t, opened(t, d, cfg(80, 1)), 0, append(all, "xy")...)
}

// The errors' table, row of Append.

func TestAppendRefuses(t *testing.T) {
	long := strings.Repeat("x", maxPayload+1)
	for _, first := range []int64{0, 9, maxSeq - 1, maxSeq} {
		d, l := begun(t, 100, first, cfg(64, 1))
		before := d.Files()
		noAppend(t, l, "", api.ErrForm)
		noAppend(t, l, long, api.ErrTooLarge)
		noAppend(t, l, long+long, api.ErrTooLarge)
		if first == maxSeq {
			noAppend(t, l, "a", api.ErrTooLarge)
			noAppend(t, l, strings.Repeat("a", 99), api.ErrTooLarge)
		} else {
			noAppend(t, l, strings.Repeat("a", 99), api.ErrFull)
			noAppend(t, l, long[1:], api.ErrFull)
		}
		files(t, d, before...)
		tells(t, l, first)
		segs(t, l, 0, 0, first)

		d.Cut(0)
		d.Create("gone")
		noAppend(t, l, "", api.ErrForm)
		noAppend(t, l, long, api.ErrTooLarge)
		want := api.ErrCut
		if first == maxSeq {
			want = api.ErrTooLarge
		}
		noAppend(t, l, "a", want)
		noAppend(t, l, long[1:], want)
		files(t, d, before...)
	}
}

func TestUpToTheLastNumber(t *testing.T) {
	d, l := begun(t, 10000, maxSeq-3, cfg(80, 1))
	appends(t, l, texts(20, 20)...)
	noAppend(t, l, "", api.ErrForm)
	appends(t, l, "z")
	before := d.Files()
	noAppend(t, l, "a", api.ErrTooLarge)
	noAppend(t, l, "", api.ErrForm)
	files(t, d, before...)
	tells(t, l, maxSeq-3, append(texts(20, 20), "z")...)
	segs(t, l, 0, 0, maxSeq-3, 0, maxSeq-2)
	// Ahead of no room, and of no power.
	d = holding(t, d.Used(), d.Files()...)
	l = opened(t, d, cfg(80, 1))
	noAppend(t, l, "a", api.ErrTooLarge)
	d.Cut(0)
	noAppend(t, l, "a", api.ErrTooLarge)
	if !d.Up() {
		t.Error("the power is gone by what was not done")
	}
}

func TestAppendWhereTheDiskIsAnotherOne(t *testing.T) {
	// A file that is called as the new segment.
	d, l := begun(t, 10000, 0, cfg(64, 1))
	appends(t, l, texts(20)...)
	d.Create(called(0, 1))
	noAppend(t, l, texts(20)[0], api.ErrTwice)
	tells(t, l, 0, texts(20)...)
	segs(t, l, 0, 0, 0)
	// No open segment.
	d.Delete(called(0, 0))
	noAppend(t, l, "a", api.ErrNone)
	noAppend(t, l, texts(20)[0], api.ErrNone)
	if e := l.Sync(); e != api.ErrNone {
		t.Errorf("Sync: %d", e)
	}
	reads(t, l, 0, "", api.ErrNone)
	ranges(t, l, 0, 1, nil, api.ErrNone)
	ranges(t, l, 1, 1, nil, api.OK)
	// More segments than a manifest has: their files went.
	d, l = begun(t, 1<<20, 0, cfg(64, 1))
	for i := range int64(80) {
		seq, e := l.Append(strings.Repeat("x", 30))
		if e != api.OK && (seq != 0 || l.Next() != int64(len(l.Segs().Segs))) {
			t.Errorf("Append: %d, %d", seq, e)
		}
		if i > 0 {
			d.Delete(called(0, i-1))
		}
	}
	if n := len(l.Segs().Segs); n != maxFiles || l.Next() != maxFiles {
		t.Errorf("%d segments, %d batches", n, l.Next())
	}
}

// P14.2: Sync.

func TestSync(t *testing.T) {
	d, l := begun(t, 1000, 2, cfg(64, 1))
	syncs(t, l)
	files(t, d, data("MANIFEST", manifest(0, 0, 2)), data(called(0, 2), header(2)))
	all := []string{"a", "bc", strings.Repeat("d", 30), "e"}
	for i, p := range all {
		appends(t, l, p)
		if i == 1 {
			files(t, d, data("MANIFEST", manifest(0, 0, 2)), pending(called(0, 2), header(2)+framed(2, "a"), framed(3, "bc")))
		}
		syncs(t, l)
		for _, f := range d.Files() {
			if f.Pending != "" {
				t.Errorf("behind %d: %q", i, f)
			}
		}
		before := d.Files()
		syncs(t, l)
		files(t, d, before...)
		tells(t, l, 2, all[:i+1]...)
	}
	d.Cut(0)
	if e := l.Sync(); e != api.ErrCut || d.Up() {
		t.Errorf("Sync: %d", e)
	}
	if e := l.Sync(); e != api.ErrCut {
		t.Errorf("Sync: %d", e)
	}
}

func TestSyncIsOfTheOpenSegmentAlone(t *testing.T) {
	l := laidFiles(3, three()...)
	for i, f := range l {
		l[i] = pending(f.Name, f.Data[:20], f.Data[20:])
	}
	l = append(l, pending("other", "a", "b"))
	d := holding(t, 1<<20, l...)
	syncs(t, opened(t, d, cfg(64, 1)))
	want := slices.Clone(l)
	want[3] = data(l[3].Name, l[3].Data+l[3].Pending)
	files(t, d, want...)
}

// P14.2: Read, Range; and the errors' table, their rows.

func TestReadAndRange(t *testing.T) {
	for _, every := range []int{1, 2, 3, 64} {
		d := dice(7)
		var all []string
		for range 60 {
			all = append(all, d.text(1+d.below(50)))
		}
		const first = 40
		_, l := begun(t, 1<<20, first, cfg(300, every))
		appends(t, l, all...)
		tells(t, l, first, all...)
		for a := int64(-2); a <= first+62; a++ {
			switch {
			case a < 0:
				reads(t, l, a, "", api.ErrNone)
			case a < first:
				reads(t, l, a, "", api.ErrGone)
			case a >= first+60:
				reads(t, l, a, "", api.ErrNone)
			default:
				reads(t, l, a, all[a-first], api.OK)
			}
			for b := int64(-2); b <= first+62; b++ {
				switch {
				case a < 0 || a > b:
					ranges(t, l, a, b, nil, api.ErrArg)
				case a < first:
					ranges(t, l, a, b, nil, api.ErrGone)
				case b > first+60:
					ranges(t, l, a, b, nil, api.ErrNone)
				case (a+b)%5 == 0 || a == b:
					ranges(t, l, a, b, all[a-first:b-first], api.OK)
				}
			}
		}
		for _, far := range []int64{math.MinInt64, math.MaxInt64, 1 << 32, 1<<32 + first} {
			reads(t, l, far, "", api.ErrNone)
			want := api.ErrNone
			if far < 0 {
				want = api.ErrArg
			}
			ranges(t, l, far, far, nil, want)
			ranges(t, l, first, far, nil, want)
			ranges(t, l, far, math.MaxInt64, nil, want)
		}
	}
}

func TestReadOfADiskThatIsGone(t *testing.T) {
	d := laid(t, 3, three()...)
	l := opened(t, d, cfg(64, 1))
	d.Cut(0)
	d.Create("gone")
	for seq := int64(-1); seq < 12; seq++ {
		switch {
		case seq < 0 || seq >= 9:
			reads(t, l, seq, "", api.ErrNone)
		case seq < 4:
			reads(t, l, seq, "", api.ErrGone)
		default:
			reads(t, l, seq, "", api.ErrCut)
			ranges(t, l, seq, 9, nil, api.ErrCut)
		}
	}
	ranges(t, l, -1, 0, nil, api.ErrArg)
	ranges(t, l, 5, 4, nil, api.ErrArg)
	ranges(t, l, 3, 3, nil, api.ErrGone)
	ranges(t, l, 3, 99, nil, api.ErrGone)
	ranges(t, l, 4, 10, nil, api.ErrNone)
	// Of no batches none is read.
	ranges(t, l, 4, 4, nil, api.OK)
	ranges(t, l, 9, 9, nil, api.OK)
	d.Crash(nil)
	tells(t, l, 4, slices.Concat(texts(20, 10), texts(30), texts(1, 2))...)
}

func TestReadOfOtherBytes(t *testing.T) {
	d := laid(t, 3, three()...)
	l := opened(t, d, cfg(64, 2))
	d.Delete(called(0, 6))
	reads(t, l, 6, "", api.ErrNone)
	ranges(t, l, 4, 9, nil, api.ErrNone)
	ranges(t, l, 4, 6, texts(20, 10), api.OK)
	ranges(t, l, 7, 9, texts(1, 2), api.OK)
	d.Create(called(0, 6))
	reads(t, l, 6, "", api.ErrShort)
	d.Append(called(0, 6), header(6)+framed(7, "abc"))
	reads(t, l, 6, "", api.ErrForm)
	d.Trim(called(0, 6), 16)
	reads(t, l, 6, "", api.ErrShort)
	d.Append(called(0, 6), framed(6, "abc")[:18]+"!")
	reads(t, l, 6, "", api.ErrSum)
	ranges(t, l, 5, 7, nil, api.ErrSum)
	d.Trim(called(0, 6), 16)
	d.Append(called(0, 6), "\x00\x00\x00\x00"+framed(6, "abc")[4:])
	reads(t, l, 6, "", api.ErrForm)
	d.Trim(called(0, 6), 16)
	d.Append(called(0, 6), framed(6, "abc"))
	reads(t, l, 6, "abc", api.OK)
	// A frame is found from the last mark on: with one ahead that is spoilt it is not.
	d.Trim(called(0, 7), 16)
	d.Append(called(0, 7), framed(7, "?")[:16]+"!"+framed(8, "bb"))
	reads(t, l, 8, "", api.ErrSum)
}

// TestEachSegmentHasItsMarks looks by batches that are spoilt at which frame the
// way to another one begins: at each one that many as Every says behind a mark.
func TestEachSegmentHasItsMarks(t *testing.T) {
	for _, every := range []int{1, 2, 3, 64} {
		c := cfg(116, every)
		d, begun := begun(t, 1000, 0, c)
		appends(t, begun, texts(4, 4, 4, 4, 4)...)
		appends(t, begun, texts(4, 4, 4, 4, 4)...)
		segs(t, begun, 0, 0, 0, 0, 5)
		for _, l := range []*seglog.Log{begun, opened(t, d, c)} {
			for spoilt := range 10 {
				first := spoilt / 5 * 5
				name, at := called(0, int64(first)), 16+(spoilt-first)*20+19
				whole, _ := d.Read(name)
				d.Trim(name, 0)
				d.Append(name, whole[:at]+"!"+whole[at+1:])
				for seq := range 10 {
					mark := seq/5*5 + seq%5/every*every
					if mark <= spoilt && spoilt <= seq {
						reads(t, l, int64(seq), "", api.ErrSum)
					} else {
						reads(t, l, int64(seq), texts(4, 4, 4, 4, 4)[seq%5], api.OK)
					}
				}
				d.Trim(name, 0)
				d.Append(name, whole)
			}
		}
	}
}

// P14.3: kept.

// keeps are ways in which what is pending is kept.
func keeps() [][]int {
	l := [][]int{nil, {0, 0, 0}, {-1, -1, -1}, {1, 1}, {math.MaxInt, math.MinInt}}
	for n := 2; n < 60; n += 5 {
		l = append(l, []int{n, n + 1, n + 2}, []int{0, n}, []int{n})
	}
	return l
}

// again says what is wrong with a log that is opened again, and that goes on: it
// has the first ones of all, no fewer than least.
func again(t *testing.T, what string, d *disk.Disk, c api.Config, first int64, all []string, least int) {
	t.Helper()
	l, e := seglog.Open(d, c)
	if e != api.OK {
		t.Errorf("%s: Open: %d", what, e)
		return
	}
	n := int(l.Next() - first)
	if n < least || n > len(all) || l.First() != first {
		t.Errorf("%s: from %d to %d, of %d and %d", what, l.First(), l.Next(), least, len(all))
		return
	}
	tells(t, l, first, all[:n]...)
	before := d.Files()
	l = opened(t, d, c)
	tells(t, l, first, all[:n]...)
	files(t, d, before...)
	appends(t, l, "goes", "on", strings.Repeat("!", 60))
	tells(t, opened(t, d, c), first, append(all[:n:n], "goes", "on", strings.Repeat("!", 60))...)
}

// does does what is said by letters: s syncs, o opens again, others are appended,
// as so many bytes as they are; up to the first error. It tells what was
// accepted, and that ahead of the last sync.
func does(t *testing.T, d *disk.Disk, l *seglog.Log, c api.Config, what string, sizes map[rune]int) (all []string, synced int, e api.Errno) {
	t.Helper()
	for i, r := range what {
		switch r {
		case 's':
			if e = l.Sync(); e == api.OK {
				synced = len(all)
			}
		case 'o':
			var log *seglog.Log
			if log, e = seglog.Open(d, c); e == api.OK {
				l = log
			}
		default:
			payload := strings.Repeat(string(rune('A'+i)), sizes[r])
			// The one that is cut off may be there as well.
			all = append(all, payload)
			if _, e = l.Append(payload); e == api.OK {
				continue
			}
		}
		if e != api.OK {
			return all, synced, e
		}
	}
	return all, synced, api.OK
}

func TestWhereverThePowerGoes(t *testing.T) {
	sizes := map[rune]int{'1': 1, '2': 10, '3': 20, '4': 33, '5': 70}
	for _, what := range []string{"33", "3s3", "1s11s1", "222222", "2s2222s22", "5s55", "4s3s2s1s", "13o31so1", "44444", "3s313131o1313"} {
		for _, size := range []int{64, 80, 200} {
			c := cfg(size, 2)
			cuts := 0
			for cut := 0; ; cut++ {
				var e api.Errno
				for _, keep := range keeps() {
					d, l := begun(t, 1<<20, 9, c)
					var all []string
					var synced int
					d.Cut(cut)
					all, synced, e = does(t, d, l, c, what, sizes)
					if e != api.OK && (e != api.ErrCut || d.Up()) {
						t.Fatalf("%s, Cut(%d): %d", what, cut, e)
					}
					d.Crash(keep)
					again(t, fmt.Sprintf("%s, Cut(%d), Crash(%d)", what, cut, keep), d, c, 9, all, synced)
				}
				if e == api.OK {
					break
				}
				cuts++
			}
			if cuts < len(what)-strings.Count(what, "o") {
				t.Errorf("%s: %d cuts", what, cuts)
			}
		}
	}
}

func TestThePowerGoesInAnInit(t *testing.T) {
	c := cfg(64, 1)
	name, head, man := called(0, 3), header(3), manifest(0, 0, 3)
	for _, l := range [][]api.File{nil, filled(2), {data(name, segment(3, "old")), data("z", "x")}} {
		l = sorted(l...)
		stages := [][]api.File{}
		for i := range l {
			stages = append(stages, l[i:])
		}
		stages = append(stages, nil, []api.File{pending(name, "", head)}, []api.File{pending(name, "", head)}, []api.File{data(name, head)},
			[]api.File{pending("MANIFEST.new", "", man), data(name, head)}, []api.File{pending("MANIFEST.new", "", man), data(name, head)},
			[]api.File{data("MANIFEST.new", man), data(name, head)}, []api.File{data("MANIFEST", man), data(name, head)})
		for cut, want := range stages {
			for _, keep := range keeps() {
				d := holding(t, 50+used(l...), l...)
				d.Cut(cut)
				log, e := seglog.Init(d, 3, c)
				if last := cut == len(stages)-1; (log != nil) != last || (e == api.OK) != last || e != api.OK && e != api.ErrCut || d.Up() != last {
					t.Errorf("Cut(%d): %v, %d", cut, log, e)
				}
				files(t, d, want...)
				d.Crash(keep)
				if e == api.OK {
					tells(t, opened(t, d, c), 3)
					continue
				}
				noOpen(t, d, c, api.ErrNone)
				if log, e := seglog.Init(d, 3, c); e != api.OK || log.Next() != 3 {
					t.Errorf("Cut(%d), and Init: %d", cut, e)
				}
				files(t, d, data("MANIFEST", man), data(name, head))
			}
		}
	}
}

func TestThePowerGoesWhereInitHasNoRoom(t *testing.T) {
	for capacity, deeds := range map[int]int{0: 2, 15: 2, 16: 6, 20: 6, 49: 6} {
		for cut := range deeds + 3 {
			d := holding(t, capacity)
			d.Cut(cut)
			log, e := seglog.Init(d, 0, cfg(64, 1))
			want := api.ErrCut
			if cut >= deeds {
				want = api.ErrFull
			}
			if log != nil || e != want || d.Up() != (want == api.ErrFull) {
				t.Errorf("%d bytes, Cut(%d): %v, %d, not %d", capacity, cut, log, e, want)
			}
			if want == api.ErrFull {
				files(t, d)
			}
			d.Crash(nil)
			noInit(t, d, 0, cfg(64, 1), api.ErrFull)
			files(t, d)
		}
	}
}

func TestThePowerGoesInARotation(t *testing.T) {
	c := cfg(64, 1)
	a, b := texts(20, 20)[0], texts(20, 20)[1]
	old, fresh, man, man2 := called(0, 0), called(0, 1), manifest(0, 0, 0), manifest(0, 0, 0, 0, 1)
	first := data(old, segment(0, a))
	is := data("MANIFEST", man)
	for cut, want := range [][]api.File{
		{is, pending(old, header(0), framed(0, a))},
		{is, first},
		{is, first, pending(fresh, "", header(1))},
		{is, first, pending(fresh, "", header(1))},
		{is, first, data(fresh, header(1))},
		{is, pending("MANIFEST.new", "", man2), first, data(fresh, header(1))},
		{is, pending("MANIFEST.new", "", man2), first, data(fresh, header(1))},
		{is, data("MANIFEST.new", man2), first, data(fresh, header(1))},
		{data("MANIFEST", man2), first, pending(fresh, header(1), framed(1, b))},
		{data("MANIFEST", man2), first, pending(fresh, header(1), framed(1, b))},
	} {
		for _, keep := range keeps() {
			d, l := begun(t, 1000, 0, c)
			appends(t, l, a)
			d.Cut(cut)
			seq, e := l.Append(b)
			if cut < 9 && (seq != 0 || e != api.ErrCut || d.Up()) || cut == 9 && (seq != 1 || e != api.OK || !d.Up()) {
				t.Errorf("Cut(%d): %d, %d", cut, seq, e)
			}
			if e == api.ErrCut {
				if l.Next() != 1 || l.First() != 0 {
					t.Errorf("Cut(%d): from %d to %d", cut, l.First(), l.Next())
				}
				noAppend(t, l, "a", api.ErrCut)
			}
			files(t, d, want...)
			d.Crash(keep)
			// From the second deed on the first batch is synced.
			again(t, fmt.Sprintf("Cut(%d), Crash(%d)", cut, keep), d, c, 0, []string{a, b}, min(cut, 1))
			if cut < 8 {
				// The new one is not there, whatever is kept of it.
				if s, _ := d.Read(old); strings.Contains(s, b) {
					t.Errorf("Cut(%d): %q", cut, d.Files())
				}
			}
		}
	}
}

func TestThePowerGoesInAnAppendAndInASync(t *testing.T) {
	c := cfg(300, 1)
	for keep := range 40 {
		d, l := begun(t, 1000, 0, c)
		appends(t, l, "first")
		syncs(t, l)
		appends(t, l, "second")
		d.Cut(0)
		noAppend(t, l, "third", api.ErrCut)
		files(t, d, data("MANIFEST", manifest(0, 0, 0)), pending(called(0, 0), segment(0, "first"), framed(1, "second")+framed(2, "third")))
		whole := d.Copy()
		whole.Crash([]int{43})
		tells(t, opened(t, whole, c), 0, "first", "second", "third")
		d.Crash([]int{keep})
		n := 1
		if keep >= 22 {
			n = 2
		}
		tells(t, opened(t, d, c), 0, []string{"first", "second"}[:n]...)

		d, l = begun(t, 1000, 0, c)
		appends(t, l, "first")
		syncs(t, l)
		appends(t, l, "second")
		d.Cut(0)
		if e := l.Sync(); e != api.ErrCut {
			t.Errorf("Sync: %d", e)
		}
		d.Crash([]int{keep % 23})
		n = 1
		if keep%23 == 22 {
			n = 2
		}
		tells(t, opened(t, d, c), 0, []string{"first", "second"}[:n]...)
	}
}

func TestThePowerGoesInAnOpen(t *testing.T) {
	c := cfg(64, 1)
	l := append(laidFiles(3, three()...), data("MANIFEST.new", "x"), data(called(0, 0), segment(0, "a")), data(called(3, 9), segment(9, "new")))
	l = append(without(l, called(0, 7)), pending(called(0, 7), segment(7, texts(1)...), framed(8, "bb")+framed(9, "torn")[:9]))
	all := slices.Concat(texts(20, 10), texts(30), texts(1, 2))
	for cut := range 6 {
		for _, keep := range keeps() {
			d := holding(t, 1<<20, l...)
			d.Cut(cut)
			log, e := seglog.Open(d, c)
			if cut < 4 && (log != nil || e != api.ErrCut || d.Up()) || cut >= 4 && (log == nil || e != api.OK || !d.Up()) {
				t.Errorf("Cut(%d): %v, %d", cut, log, e)
			}
			d.Crash(keep)
			least := 4
			if cut >= 4 {
				least = 5
			}
			again(t, fmt.Sprintf("Cut(%d), Crash(%d)", cut, keep), d, c, 4, all, least)
		}
	}
}

// P14.4: no room.

func TestNoRoomForAFrame(t *testing.T) {
	for capacity := 50; capacity < 140; capacity++ {
		d, l := begun(t, capacity, 0, cfg(1000, 1))
		for n := 1; n < 100; n++ {
			d, l := d.Copy(), l
			l = opened(t, d, cfg(1000, 1))
			before := d.Files()
			if 50+16+n <= capacity {
				appends(t, l, strings.Repeat("x", n))
				continue
			}
			noAppend(t, l, strings.Repeat("x", n), api.ErrFull)
			files(t, d, before...)
			tells(t, l, 0)
		}
		files(t, d, data("MANIFEST", manifest(0, 0, 0)), data(called(0, 0), header(0)))
		tells(t, l, 0)
	}
}

func TestNoRoomForARotation(t *testing.T) {
	first := texts(20)[0]
	// The first batch, the manifest, and what is written: the frame, a header,
	// and a manifest of two segments beside the one of one.
	const need = 34 + 52 + 36 + 16 + 50
	for capacity := 34 + 52; capacity <= need+2; capacity++ {
		d, l := begun(t, capacity, 0, cfg(80, 1))
		appends(t, l, first)
		before := d.Files()
		d.Cut(100)
		if capacity >= need {
			appends(t, l, texts(1, 20)[1])
			segs(t, l, 0, 0, 0, 0, 1)
			if d.Used() != need-34 {
				t.Errorf("%d bytes", d.Used())
			}
			continue
		}
		noAppend(t, l, texts(1, 20)[1], api.ErrFull)
		// Nothing is done, nor synced.
		files(t, d, before...)
		if before[1].Pending == "" {
			t.Fatalf("%q", before)
		}
		tells(t, l, 0, first)
		segs(t, l, 0, 0, 0)
		if capacity >= 34+52+28 {
			appends(t, l, texts(12)...)
			tells(t, l, 0, first, texts(12)[0])
		}
	}
}

func TestNoRoomForThreeSegments(t *testing.T) {
	all := texts(20, 30, 40)
	const there = 52 + 62 + 50
	for more := range 140 {
		d, l := begun(t, there+34+66, 0, cfg(64, 1))
		appends(t, l, all[:2]...)
		d = holding(t, there+more, d.Files()...)
		l = opened(t, d, cfg(64, 1))
		if more >= 16+40+16+66 {
			appends(t, l, all[2])
			tells(t, opened(t, d, cfg(64, 1)), 0, all...)
			continue
		}
		before := d.Files()
		noAppend(t, l, all[2], api.ErrFull)
		files(t, d, before...)
		tells(t, l, 0, all[:2]...)
		segs(t, l, 0, 0, 0, 0, 1)
	}
}

func TestNoRoomInFiles(t *testing.T) {
	for n := maxFiles - 8; n <= maxFiles-2; n++ {
		d := holding(t, 1<<20, append(laidFiles(0, part{0, texts(20)}), filled(n)...)...)
		l := opened(t, d, cfg(80, 1))
		before := d.Files()
		// The frame alone needs no file.
		if n+2+2 > maxFiles {
			noAppend(t, l, texts(20)[0], api.ErrFull)
			files(t, d, before...)
			tells(t, l, 0, texts(20)...)
			segs(t, l, 0, 0, 0)
			appends(t, l, texts(12)...)
			continue
		}
		appends(t, l, texts(20)...)
		segs(t, l, 0, 0, 0, 0, 1)
		if got := len(d.Files()); got != n+3 {
			t.Errorf("%d files, not %d", got, n+3)
		}
	}
}

func TestNoRoomIsNoCut(t *testing.T) {
	d, l := begun(t, 34+52+36, 0, cfg(80, 1))
	appends(t, l, texts(20)...)
	d.Cut(0)
	noAppend(t, l, texts(20)[0], api.ErrFull)
	noAppend(t, l, texts(40)[0], api.ErrFull)
	if !d.Up() {
		t.Error("the power is gone by what was not done")
	}
	noAppend(t, l, "a", api.ErrCut)
	noAppend(t, l, texts(40)[0], api.ErrCut)
}

// P14.5: segments.

func TestSegments(t *testing.T) {
	for _, size := range []int{64, 65, 100, 333, 4096, 65536} {
		dice := dice(size)
		d, l := begun(t, 1<<20, 0, cfg(size, 4))
		for range 300 {
			n := 1 + dice.below(2*size)>>dice.below(6)
			if _, e := l.Append(dice.text(min(n, maxPayload))); e == api.ErrFull {
				break
			}
			if dice.below(9) == 0 {
				syncs(t, l)
			}
			if dice.below(20) == 0 {
				l = opened(t, d, cfg(size, 4))
			}
		}
		m := l.Segs()
		if len(m.Segs) < 3 {
			t.Errorf("SegSize %d: %d segments", size, len(m.Segs))
		}
		for i, name := range manif.Names(m) {
			at := slices.IndexFunc(d.Files(), func(f api.File) bool { return f.Name == name })
			f := d.Files()[at]
			if i < len(m.Segs)-1 && f.Pending != "" {
				t.Errorf("SegSize %d: %s has %d bytes that are not synced", size, name, len(f.Pending))
			}
			payloads, good := slowScan(f.Data+f.Pending, m.Segs[i].First)
			if good != used(f) || good > size && len(payloads) != 1 {
				t.Errorf("SegSize %d: %s has %d bytes, %d frames", size, name, used(f), len(payloads))
			}
			if i < len(m.Segs)-1 {
				// The next one's first batch did not go into it.
				if p, _ := l.Read(m.Segs[i+1].First); good+16+len(p) <= size || m.Segs[i].First+int64(len(payloads)) != m.Segs[i+1].First {
					t.Errorf("SegSize %d: %s ends at %d, ahead of %d bytes", size, name, good, len(p))
				}
			}
		}
	}
}

// P14.6: again.

func TestAgain(t *testing.T) {
	name := called(0, 7)
	for _, l := range [][]api.File{
		laidFiles(0, part{0, nil}), laidFiles(3, three()...), append(laidFiles(3, three()...), data("MANIFEST.new", "x"), data(called(2, 2), "x"), pending("other", "x", "y")),
		changed(laidFiles(3, three()...), name, func(s string) string { return s + "torn" }), changed(laidFiles(3, three()...), name, func(s string) string { return s[:17] }),
		append(without(laidFiles(3, three()...), name), pending(name, header(7), framed(7, "pending")+"torn")),
		append(without(laidFiles(3, three()...), name), pending(name, "", segment(7, "pending"))),
	} {
		d := holding(t, 1<<20, l...)
		a := opened(t, d, cfg(64, 3))
		before := d.Files()
		d.Cut(0)
		for range 3 {
			b := opened(t, d, cfg(64, 3))
			files(t, d, before...)
			all, _ := a.Range(a.First(), a.Next())
			tells(t, b, a.First(), all...)
			if !manif.Same(a.Segs(), b.Segs()) || a.Config() != b.Config() {
				t.Errorf("%v, %v", a.Segs(), b.Segs())
			}
		}
		if !d.Up() {
			t.Error("something was done")
		}
	}
}

// R1.

func TestWhatIsToldIsNotShared(t *testing.T) {
	d := laid(t, 3, three()...)
	l := opened(t, d, cfg(64, 1))
	all := slices.Concat(texts(20, 10), texts(30), texts(1, 2))
	m := l.Segs()
	m.Gen, m.Segs[0], m.Segs[2] = 9, manif.Entry{}, manif.Entry{Gen: 1, First: 1}
	m.Segs = append(m.Segs[:1], manif.Entry{Gen: 7, First: 7})
	segs(t, l, 3, 0, 4, 0, 6, 0, 7)
	a, _ := l.Range(4, 9)
	b, _ := l.Range(4, 9)
	for i := range a {
		a[i] = "x"
	}
	a = append(a[:2], "y")
	if !slices.Equal(b, all) {
		t.Errorf("Range: %.99q", b)
	}
	tells(t, l, 4, all...)
	appends(t, l, strings.Repeat("z", 40))
	segs(t, l, 3, 0, 4, 0, 6, 0, 7, 3, 9)
	tells(t, l, 4, append(all, strings.Repeat("z", 40))...)
	m = l.Segs()
	appends(t, l, strings.Repeat("y", 40))
	if len(m.Segs) != 4 || m.Segs[3] != (manif.Entry{Gen: 3, First: 9}) {
		t.Errorf("Segs: %v", m)
	}
}

func TestLogsOfCopiesGoTheirOwnWay(t *testing.T) {
	d, l := begun(t, 10000, 0, cfg(64, 1))
	appends(t, l, texts(20, 20)...)
	other := d.Copy()
	m := opened(t, other, cfg(64, 1))
	appends(t, l, "a", "b")
	appends(t, m, texts(30, 30)...)
	tells(t, l, 0, append(texts(20, 20), "a", "b")...)
	tells(t, m, 0, append(texts(20, 20), texts(30, 30)...)...)
	tells(t, opened(t, d, cfg(64, 1)), 0, append(texts(20, 20), "a", "b")...)
	tells(t, opened(t, other, cfg(64, 1)), 0, append(texts(20, 20), texts(30, 30)...)...)
}

func TestWhatIsHandedInStays(t *testing.T) {
	payload := strings.Repeat("p", 30)
	d, l := begun(t, 10000, 0, cfg(64, 1))
	appends(t, l, payload, payload)
	before := d.Files()
	// What is asked changes nothing.
	for seq := int64(-1); seq < 4; seq++ {
		l.Read(seq)
		l.Range(seq, 2)
		l.Range(0, seq)
	}
	l.Segs()
	l.First()
	l.Next()
	l.Config()
	noAppend(t, l, "", api.ErrForm)
	noAppend(t, l, strings.Repeat("p", maxPayload+1), api.ErrTooLarge)
	files(t, d, before...)
	if payload != strings.Repeat("p", 30) {
		t.Error(payload)
	}
}

// The chapter's examples.

func TestTheExamples(t *testing.T) {
	c := cfg(64, 1)
	d, l := begun(t, 1000, 0, c)
	h0, h1 := "\x73\x65\x67\x31\x00\x00\x00\x00\x00\x00\x00\x00\x89\x64\xf3\x03", "\x73\x65\x67\x31\x00\x00\x00\x00\x00\x00\x00\x01\x1f\x54\xf4\x74"
	m1 := "man1" + strings.Repeat("\x00", 9) + "\x01" + strings.Repeat("\x00", 16) + "\xd2\x15\xba\x97"
	m2 := "man1" + strings.Repeat("\x00", 9) + "\x02" + strings.Repeat("\x00", 31) + "\x01" + "\xb9\x1f\xc6\x37"
	files(t, d, data("MANIFEST", m1), data("s00000000-0000000000", h0))
	if len(m1) != 34 || len(m2) != 50 {
		t.Fatal(len(m1), len(m2))
	}
	a, b := strings.Repeat("a", 20), strings.Repeat("b", 20)
	f0 := "\x00\x00\x00\x14\x00\x00\x00\x00\x00\x00\x00\x00\x3a\xaa\x16\xe1" + a
	f1 := "\x00\x00\x00\x14\x00\x00\x00\x00\x00\x00\x00\x01\x46\xc6\x73\xd2" + b
	appends(t, l, a)
	files(t, d, data("MANIFEST", m1), pending("s00000000-0000000000", h0, f0))
	if n := len(h0 + f0); n != 52 {
		t.Errorf("%d bytes", n)
	}
	cut := d.Copy()
	appends(t, l, b)
	files(t, d, data("MANIFEST", m2), data("s00000000-0000000000", h0+f0), pending("s00000000-0000000001", h1, f1))
	segs(t, l, 0, 0, 0, 0, 1)

	// The document's fourth example: a cut of 2 ahead of the second batch.
	l = opened(t, cut, c)
	cut.Cut(2)
	noAppend(t, l, b, api.ErrCut)
	files(t, cut, data("MANIFEST", m1), data("s00000000-0000000000", h0+f0), pending("s00000000-0000000001", "", h1))
	cut.Crash([]int{7})
	files(t, cut, data("MANIFEST", m1), data("s00000000-0000000000", h0+f0), data("s00000000-0000000001", h1[:7]))
	tells(t, opened(t, cut, c), 0, a)
	files(t, cut, data("MANIFEST", m1), data("s00000000-0000000000", h0+f0))
}

// A second log, by the words of the document.

// pair is a log, and a second one, on disks that are the same.
type pair struct {
	d *disk.Disk
	p *plain
	l *seglog.Log
	s *slow
	c api.Config
}

// same says what is wrong with how the two are the same.
func (x *pair) same(t *testing.T, what string) {
	t.Helper()
	if !slices.Equal(x.d.Files(), x.p.list()) || x.d.Up() == x.p.gone {
		t.Fatalf("%s: files %.999q, not %.999q", what, x.d.Files(), x.p.list())
	}
	if (x.l == nil) != (x.s == nil) {
		t.Fatalf("%s: %v, %v", what, x.l, x.s)
	}
	if x.l == nil {
		return
	}
	if x.l.First() != x.s.first || x.l.Next() != x.s.next() || x.l.Config() != x.s.c {
		t.Fatalf("%s: from %d to %d, not from %d to %d", what, x.l.First(), x.l.Next(), x.s.first, x.s.next())
	}
	if m := x.l.Segs(); x.d.Up() && (m.Gen != x.s.gen || !slices.Equal(m.Segs, x.s.segs)) {
		t.Fatalf("%s: %v, not %d, %v", what, m, x.s.gen, x.s.segs)
	}
}

// opens opens both, or begins them.
func (x *pair) opens(t *testing.T, dice *dice) string {
	t.Helper()
	var e, want api.Errno
	x.c = api.Config{SegSize: 64 + dice.below(100)>>dice.below(7), Every: 1 + dice.below(64)>>dice.below(6), V: uint8(1 + dice.below(3))}
	first := int64(dice.below(maxSeq+1)) >> dice.below(21)
	if dice.below(30) == 0 {
		first = maxSeq - int64(dice.below(4))
	}
	if dice.below(40) == 0 {
		x.c.V = 4
	}
	what := fmt.Sprintf("Open(%v)", x.c)
	if x.p.is("MANIFEST") == (dice.below(20) > 0) {
		x.l, e = seglog.Open(x.d, x.c)
		x.s, want = slowOpen(x.p, x.c)
	} else {
		what = fmt.Sprintf("Init(%d, %v)", first, x.c)
		x.l, e = seglog.Init(x.d, first, x.c)
		x.s, want = slowInit(x.p, first, x.c)
	}
	if e != want {
		t.Fatalf("%s: %d, not %d", what, e, want)
	}
	return what
}

// alter lays something on both disks, or spoils something there.
func (x *pair) alter(dice *dice) string {
	l := x.d.Files()
	spoil := func(s string) string {
		switch b := []byte(s); {
		case len(s) == 0 || dice.below(3) == 0:
			return s + dice.text(1+dice.below(20))
		case dice.below(2) == 0:
			return s[:dice.below(len(s))]
		default:
			b[dice.below(len(b))] ^= byte(1 << dice.below(8))
			return string(b)
		}
	}
	switch i := dice.below(len(l) + 1); {
	case i < len(l) && dice.below(2) == 0:
		l[i].Data = spoil(l[i].Data)
	case i < len(l) && dice.below(2) == 0:
		l = slices.Delete(l, i, i+1)
	default:
		names := []string{"MANIFEST.new", "other", called(0, int64(dice.below(20))), called(int64(dice.below(3)), 0), called(1, 5), "s1-1"}
		name := names[dice.below(len(names))]
		l = append(without(l, name), pending(name, dice.text(dice.below(9)), dice.text(dice.below(9))))
	}
	d, e := disk.Load(x.d.Capacity(), sorted(l...))
	if e != api.OK {
		return "no alter"
	}
	x.d, x.p = d, plainly(x.p.capacity, d.Files())
	x.l, x.s = nil, nil
	return fmt.Sprintf("alter %.200q", l)
}

// asks reads of both.
func (x *pair) asks(t *testing.T, dice *dice) string {
	t.Helper()
	a, b := x.s.first+int64(dice.below(30))-3, x.s.first+int64(dice.below(30))-3
	if dice.below(2) == 0 {
		a, b = x.s.first, x.s.next()
	}
	s, want := x.s.read(a)
	reads(t, x.l, a, s, want)
	l, err := x.s.those(a, b)
	ranges(t, x.l, a, b, l, err)
	return fmt.Sprintf("Range(%d, %d)", a, b)
}

// does does one thing to both.
func (x *pair) does(t *testing.T, dice *dice) string {
	t.Helper()
	switch n := dice.below(20); {
	case n == 0 && !x.p.gone:
		cut := dice.below(12)
		x.d.Cut(cut)
		x.p.left = cut
		return fmt.Sprintf("Cut(%d)", cut)
	case n == 1 || x.p.gone && n < 10:
		keep := []int{dice.below(200) - 9, dice.below(200), dice.below(200)}[:dice.below(4)]
		x.d.Crash(keep)
		x.p.crash(keep)
		x.l, x.s = nil, nil
		return fmt.Sprintf("Crash(%d)", keep)
	case n == 2 && !x.p.gone && x.p.left < 0 && dice.below(4) == 0:
		return x.alter(dice)
	case x.l == nil || n == 3:
		return x.opens(t, dice)
	case n < 6:
		return x.asks(t, dice)
	case n < 8:
		if e, want := x.l.Sync(), x.s.sync(); e != want {
			t.Fatalf("Sync: %d, not %d", e, want)
		}
		return "Sync"
	default:
		payload := dice.text(dice.below(80) >> dice.below(4))
		seq, e := x.l.Append(payload)
		n, want := x.s.append(payload)
		if seq != n || e != want {
			t.Fatalf("Append(%d bytes): %d, %d, not %d, %d", len(payload), seq, e, n, want)
		}
		return fmt.Sprintf("Append(%d bytes), %d", len(payload), e)
	}
}

func TestByTheWords(t *testing.T) {
	dice := dice(14)
	for range 2000 {
		capacity := 50 + dice.below(6000)>>dice.below(5)
		x := pair{d: holding(t, capacity), p: plainly(capacity, nil)}
		var said []string
		for range 60 {
			said = append(said, x.does(t, &dice))
			x.same(t, strings.Join(said[max(0, len(said)-8):], "; "))
		}
	}
}

func TestManySegmentsByTheWords(t *testing.T) {
	dice := dice(15)
	for range 20 {
		x := pair{d: holding(t, 50000), p: plainly(50000, nil), c: cfg(64, 1+dice.below(3))}
		x.l, _ = seglog.Init(x.d, 0, x.c)
		x.s, _ = slowInit(x.p, 0, x.c)
		for range 200 {
			payload := dice.text(1 + dice.below(40))
			seq, e := x.l.Append(payload)
			n, want := x.s.append(payload)
			if seq != n || e != want {
				t.Fatalf("Append(%d bytes): %d, %d, not %d, %d", len(payload), seq, e, n, want)
			}
		}
		x.same(t, "many")
		tells(t, x.l, 0, x.s.all...)
	}
}
