package disk_test

import (
	"fmt"
	"math"
	"slices"
	"strings"
	"testing"

	"souk/api"
	"souk/disk"
)

// dice tells numbers that look like any, the same ones in each run.
type dice uint64

func (d *dice) next() uint64 {
	*d ^= *d << 13
	*d ^= *d >> 7
	*d ^= *d << 17
	return uint64(*d) * 0x2545F4914F6CDD1D
}

func (d *dice) below(n int) int { return int(d.next() % uint64(n)) }

// any tells any number at all, small ones as often as great ones.
func (d *dice) any() int { return int(int64(d.next()) >> d.below(64)) }

// deed is one of what is done: what it is called, of which file, with which name
// or bytes, and with which number.
type deed struct {
	what, name, text string
	n                int
}

func create(name string) deed            { return deed{what: "Create", name: name} }
func write(name, bytes string) deed      { return deed{what: "Append", name: name, text: bytes} }
func sync(name string) deed              { return deed{what: "Sync", name: name} }
func trim(name string, n int) deed       { return deed{what: "Trim", name: name, n: n} }
func rename(name, to string) deed        { return deed{what: "Rename", name: name, text: to} }
func remove(name string) deed            { return deed{what: "Delete", name: name} }
func file(name, data, p string) api.File { return api.File{Name: name, Data: data, Pending: p} }

// on does it.
func (x deed) on(d *disk.Disk) api.Errno {
	switch x.what {
	case "Create":
		return d.Create(x.name)
	case "Append":
		return d.Append(x.name, x.text)
	case "Sync":
		return d.Sync(x.name)
	case "Trim":
		return d.Trim(x.name, x.n)
	case "Rename":
		return d.Rename(x.name, x.text)
	}
	return d.Delete(x.name)
}

func (x deed) String() string {
	return fmt.Sprintf("%s(%.30q, %.30q, %d)", x.what, x.name, x.text, x.n)
}

// made is a disk with these files.
func made(t *testing.T, capacity int, l ...api.File) *disk.Disk {
	t.Helper()
	d, e := disk.Load(capacity, l)
	if e != api.OK || d == nil {
		t.Fatalf("Load(%d, %.99q): %v, %d", capacity, l, d, e)
	}
	return d
}

// does does what must be OK.
func does(t *testing.T, d *disk.Disk, l ...deed) {
	t.Helper()
	for _, x := range l {
		if e := x.on(d); e != api.OK {
			t.Fatalf("%v: error %d", x, e)
		}
	}
}

// cuts, crashes: what must be OK.
func cuts(t *testing.T, d *disk.Disk, n int) {
	t.Helper()
	if e := d.Cut(n); e != api.OK {
		t.Fatalf("Cut(%d): error %d", n, e)
	}
}

func crashes(t *testing.T, d *disk.Disk, keep ...int) {
	t.Helper()
	if e := d.Crash(keep); e != api.OK {
		t.Fatalf("Crash(%d): error %d", keep, e)
	}
}

// has says what a disk has that it should not have, or has not: by all that
// tells of files, as long as the power is there.
func has(t *testing.T, d *disk.Disk, want ...api.File) {
	t.Helper()
	used := 0
	var names []string
	for _, f := range want {
		used += len(f.Data) + len(f.Pending)
		names = append(names, f.Name)
	}
	if l := d.Files(); !slices.Equal(l, want) {
		t.Fatalf("Files: %.99q, not %.99q", l, want)
	}
	if n := d.Used(); n != used {
		t.Fatalf("Used: %d, not %d", n, used)
	}
	if !d.Up() {
		return
	}
	for _, f := range want {
		if s, e := d.Read(f.Name); s != f.Data+f.Pending || e != api.OK {
			t.Fatalf("Read(%q): %.99q, %d", f.Name, s, e)
		}
	}
	if l, e := d.List(); !slices.Equal(l, names) || e != api.OK {
		t.Fatalf("List: %q, %d, not %q", l, e, names)
	}
	bytes, files, e := d.Room()
	if bytes != d.Capacity()-used || files != 64-len(want) || e != api.OK {
		t.Fatalf("Room: %d, %d, %d, of %d with %d files", bytes, files, e, d.Capacity(), len(want))
	}
}

// refuses says whether each is refused with that error, and leaves all as it was.
func refuses(t *testing.T, d *disk.Disk, want api.Errno, l ...deed) {
	t.Helper()
	for _, x := range l {
		former, up, copied := d.Files(), d.Up(), d.Copy()
		if e := x.on(d); e != want {
			t.Errorf("%v: error %d, not %d", x, e, want)
		}
		has(t, d, former...)
		if d.Up() != up || !disk.Same(d, copied) {
			t.Errorf("%v: error %d, and it is another one: %v, %v", x, want, d, copied)
		}
	}
}

// notLoaded says whether Load refuses files.
func notLoaded(t *testing.T, capacity int, want api.Errno, l ...api.File) {
	t.Helper()
	if d, e := disk.Load(capacity, l); d != nil || e != want {
		t.Errorf("Load(%d, %d files): %v, error %d, not %d", capacity, len(l), d != nil, e, want)
	}
}

// numbered are n files without bytes, by rising names.
func numbered(n int) []api.File {
	var l []api.File
	for i := range n {
		l = append(l, file(fmt.Sprintf("f%03d", i), "", ""))
	}
	return l
}

// whole are as many bytes as a file has at most.
var whole = strings.Repeat("0123456789abcdef", 1<<16)

// P9.1: New, Load, Create to Delete, Read, List, Room.

func TestNewHasNoFiles(t *testing.T) {
	for _, capacity := range []int{0, 1, 2, 100, 1 << 26, math.MaxInt} {
		d, e := disk.New(capacity)
		if d == nil || e != api.OK {
			t.Fatalf("New(%d): %v, %d", capacity, d, e)
		}
		has(t, d)
		if d.Capacity() != capacity || !d.Up() {
			t.Errorf("New(%d): capacity %d, up: %v", capacity, d.Capacity(), d.Up())
		}
		has(t, made(t, capacity))
		has(t, made(t, capacity, []api.File{}...))
	}
}

func TestACapacityBelowNothing(t *testing.T) {
	for _, capacity := range []int{-1, -2, -100, math.MinInt} {
		if d, e := disk.New(capacity); d != nil || e != api.ErrArg {
			t.Errorf("New(%d): %v, %d", capacity, d, e)
		}
		notLoaded(t, capacity, api.ErrArg)
		notLoaded(t, capacity, api.ErrArg, file("a", "x", ""))
		notLoaded(t, capacity, api.ErrArg, file("a/b", "x", ""))
		notLoaded(t, capacity, api.ErrArg, file("a", whole, "x"))
		notLoaded(t, capacity, api.ErrArg, numbered(65)...)
	}
}

func TestLoadHasTheseFiles(t *testing.T) {
	for _, l := range [][]api.File{
		{file("a", "", "")},
		{file("a", "x", "")},
		{file("a", "", "x")},
		{file("a", "x", "yz")},
		{file("MANIFEST", "m", ""), file("MANIFEST.new", "", "n"), file("s00000000-0000000000", "seg1", "..")},
		{file("-", "1", "2"), file(".", "3", "4"), file("0", "5", "6"), file("A", "7", "8"), file("_", "9", "a"), file("a", "b", "c")},
		numbered(64),
	} {
		d := made(t, 100, l...)
		has(t, d, l...)
		if d.Capacity() != 100 || !d.Up() {
			t.Errorf("Load(100, %q): capacity %d, up: %v", l, d.Capacity(), d.Up())
		}
	}
}

func TestListsThatLoadRefuses(t *testing.T) {
	for _, l := range [][]api.File{
		{file("", "", "")},
		{file("a/b", "", "")},
		{file("a", "", ""), file("b ", "", "")},
		{file("A", "", ""), file("a\x00", "", "")},
		{file("a", "", ""), file(strings.Repeat("b", 25), "", "")},
		{file("a", "", ""), file("a", "", "")},
		{file("a", "x", ""), file("b", "y", ""), file("b", "z", "")},
		{file("b", "", ""), file("a", "", "")},
		{file("a", "", ""), file("c", "", ""), file("b", "", "")},
		{file("a", "", ""), file("b", "", ""), file("a", "", "")},
		{file("a", "", ""), file("B", "", "")},
		numbered(65),
		numbered(1000),
		{file("a", whole+"x", "")},
		{file("a", "", whole+"x")},
		{file("a", whole, "x")},
		{file("a", "x", whole)},
		{file("a", whole[1:], "xy")},
		{file("a", "", ""), file("b", whole, whole)},
	} {
		// What may not be comes ahead of that there is no room.
		for _, capacity := range []int{0, 1, 1 << 20, 1 << 30, math.MaxInt} {
			notLoaded(t, capacity, api.ErrForm, l...)
		}
	}
}

func TestLoadLooksForRoom(t *testing.T) {
	for _, c := range []struct {
		l    []api.File
		used int
	}{
		{[]api.File{file("a", "x", "")}, 1},
		{[]api.File{file("a", "", "x")}, 1},
		{[]api.File{file("a", "ab", "cd")}, 4},
		{[]api.File{file("a", "ab", "c"), file("b", "", ""), file("c", "", "defg")}, 7},
		{[]api.File{file("a", whole, ""), file("b", "", whole), file("c", whole[:9], whole[9:])}, 3 << 20},
	} {
		notLoaded(t, c.used-1, api.ErrFull, c.l...)
		notLoaded(t, 0, api.ErrFull, c.l...)
		has(t, made(t, c.used, c.l...), c.l...)
		has(t, made(t, c.used+1, c.l...), c.l...)
	}
}

// asked are names that are asked, and whether they may be.
func asked() map[string]int {
	const letters = "abcdefghijklmnopqrstuvwxyzABCDEFGHIJKLMNOPQRSTUVWXYZ0123456789-_."
	names := map[string]int{"": 0, "é": 0, "a世": 0, "\xff\xfe": 0, "..": 1, letters[:24]: 1, letters[41:]: 1}
	for b := range 256 {
		c, may := string([]byte{byte(b)}), 0
		if strings.Contains(letters, c) {
			may = 1
		}
		for _, name := range []string{c, c + c, c + "a", "a" + c, "a" + c + "a", "abcdefghijk" + c + "abcdefghijkl"} {
			names[name] = may
		}
		names["abcdefghijklmnopqrstuvwx"+c] = 0
	}
	for n := 1; n <= 300; n++ {
		names[strings.Repeat("s", n)] = 0
		if n <= 24 {
			names[strings.Repeat("s", n)] = 1
		}
	}
	return names
}

func TestWhichNamesMayBe(t *testing.T) {
	for name, may := range asked() {
		if disk.MayName(name) != (may == 1) {
			t.Errorf("MayName(%q): %v", name, may != 1)
		}
		d := made(t, 9, file("0000", "x", "y"))
		if may == 0 {
			notLoaded(t, 9, api.ErrForm, file(name, "", ""))
			refuses(t, d, api.ErrForm, create(name), rename("0000", name))
			refuses(t, d, api.ErrNone, write(name, "x"), sync(name), trim(name, 0), remove(name), rename(name, "b"))
			continue
		}
		has(t, made(t, 9, file(name, "", "x")), file(name, "", "x"))
		does(t, d, rename("0000", name))
		has(t, d, file(name, "x", "y"))
		does(t, d, remove(name), create(name))
		has(t, d, file(name, "", ""))
	}
}

func TestCreateIsAFileWithoutBytesForGood(t *testing.T) {
	d := made(t, 10)
	does(t, d, create("b"))
	has(t, d, file("b", "", ""))
	does(t, d, create("a"), create("c"))
	has(t, d, file("a", "", ""), file("b", "", ""), file("c", "", ""))
	refuses(t, d, api.ErrTwice, create("a"), create("b"), create("c"))
	crashes(t, d)
	has(t, d, file("a", "", ""), file("b", "", ""), file("c", "", ""))
	does(t, d, write("b", "x"))
	refuses(t, d, api.ErrTwice, create("b"))
}

func TestHowManyFilesThereMayBe(t *testing.T) {
	d := made(t, 1)
	l := numbered(64)
	for i, f := range l {
		does(t, d, create(f.Name))
		has(t, d, l[:i+1]...)
	}
	refuses(t, d, api.ErrFull, create("z"), create("a"), create("f064"))
	refuses(t, d, api.ErrTwice, create("f000"), create("f063"))
	refuses(t, d, api.ErrForm, create(""), create("a/b"))
	does(t, d, write("f031", "x"), rename("f031", "a"))
	refuses(t, d, api.ErrFull, create("f031"))
	does(t, d, rename("a", "f030"), create("f031"))
	refuses(t, d, api.ErrFull, create("a"))
	does(t, d, remove("f063"), create("a"))
	refuses(t, d, api.ErrFull, create("f063"))
	if api.MaxFiles != 64 {
		t.Errorf("MaxFiles is %d", api.MaxFiles)
	}
}

func TestAppendIsBytesMoreThatArePending(t *testing.T) {
	d := made(t, 100, file("a", "", ""), file("b", "x", ""), file("c", "x", "y"))
	does(t, d, write("a", "12"), write("b", "12"), write("c", "12"))
	has(t, d, file("a", "", "12"), file("b", "x", "12"), file("c", "x", "y12"))
	does(t, d, write("a", "3"), write("c", "\x00\xff/\n"))
	has(t, d, file("a", "", "123"), file("b", "x", "12"), file("c", "x", "y12\x00\xff/\n"))
	refuses(t, d, api.ErrNone, write("d", "x"), write("d", ""), write("", ""), write("A", "x"), write("a/b", "x"))
}

func TestAppendOfNoBytes(t *testing.T) {
	d := made(t, 2, file("a", "", ""), file("b", "x", "y"))
	does(t, d, write("a", ""), write("b", ""))
	has(t, d, file("a", "", ""), file("b", "x", "y"))
	full := made(t, 1<<20, file("a", whole, ""), file("b", "", ""))
	does(t, full, write("a", ""), write("b", ""))
	has(t, full, file("a", whole, ""), file("b", "", ""))
	empty := made(t, 0)
	does(t, empty, create("a"), write("a", ""), sync("a"), trim("a", 0))
	has(t, empty, file("a", "", ""))
}

func TestHowManyBytesAFileMayHave(t *testing.T) {
	for _, d := range []*disk.Disk{made(t, math.MaxInt, file("a", "", "")), made(t, 1<<21, file("a", "", ""))} {
		refuses(t, d, api.ErrFull, write("a", whole+"x"), write("a", whole+whole))
		does(t, d, write("a", whole))
		has(t, d, file("a", "", whole))
		refuses(t, d, api.ErrFull, write("a", "x"), write("a", whole))
		does(t, d, sync("a"))
		refuses(t, d, api.ErrFull, write("a", "x"))
		does(t, d, trim("a", 1<<20-2))
		refuses(t, d, api.ErrFull, write("a", "xyz"))
		does(t, d, write("a", "x"), write("a", "y"))
		has(t, d, file("a", whole[:1<<20-2], "xy"))
		refuses(t, d, api.ErrFull, write("a", "x"))
		does(t, d, create("b"), write("b", "x"))
	}
	if api.MaxBytes != 1<<20 {
		t.Errorf("MaxBytes is %d", api.MaxBytes)
	}
}

func TestHowManyBytesAllFilesMayHave(t *testing.T) {
	d := made(t, 5, file("a", "x", "y"), file("b", "", "z"), file("c", "", ""))
	refuses(t, d, api.ErrFull, write("a", "123"), write("b", "123"), write("c", "123"), write("c", whole), write("c", whole+"x"))
	does(t, d, write("c", "12"))
	has(t, d, file("a", "x", "y"), file("b", "", "z"), file("c", "", "12"))
	refuses(t, d, api.ErrFull, write("a", "1"), write("b", "1"), write("c", "1"))
	does(t, d, sync("a"), sync("b"), create("d"))
	refuses(t, d, api.ErrFull, write("d", "1"))
	does(t, d, trim("a", 0), write("d", "1"))
	refuses(t, d, api.ErrFull, write("d", "12"))
	does(t, d, write("d", "2"), remove("b"), write("d", "3"))
	refuses(t, d, api.ErrFull, write("d", "4"))
	does(t, d, rename("a", "c"), write("d", "45"))
	has(t, d, file("c", "", ""), file("d", "", "12345"))
	none := made(t, 0, file("a", "", ""))
	refuses(t, none, api.ErrFull, write("a", "1"), write("a", whole+"x"))
	two := made(t, 2, file("a", "", ""))
	refuses(t, two, api.ErrFull, write("a", "123"))
}

func TestSyncMakesAllStandForGood(t *testing.T) {
	d := made(t, 9, file("a", "", ""), file("b", "x", ""), file("c", "", "yz"), file("d", "1", "23"))
	does(t, d, sync("a"), sync("b"), sync("c"))
	has(t, d, file("a", "", ""), file("b", "x", ""), file("c", "yz", ""), file("d", "1", "23"))
	does(t, d, sync("d"), write("d", "4"))
	has(t, d, file("a", "", ""), file("b", "x", ""), file("c", "yz", ""), file("d", "123", "4"))
	refuses(t, d, api.ErrNone, sync("e"), sync(""), sync("a/b"))
}

func TestTrimIsTheFirstBytesForGood(t *testing.T) {
	for n, want := range []string{"", "1", "12", "123", "1234", "12345", "123456"} {
		for _, f := range []api.File{file("a", "123456", ""), file("a", "", "123456"), file("a", "123", "456"), file("a", "1234", "56")} {
			d := made(t, 8, f, file("b", "", "x"))
			refuses(t, d, api.ErrArg, trim("a", -1), trim("a", 7), trim("a", math.MinInt), trim("a", math.MaxInt))
			does(t, d, trim("a", n))
			has(t, d, file("a", want, ""), file("b", "", "x"))
			refuses(t, d, api.ErrArg, trim("a", n+1))
			does(t, d, write("a", "-"))
			has(t, d, file("a", want, "-"), file("b", "", "x"))
			crashes(t, d)
			has(t, d, file("a", want, ""), file("b", "", ""))
		}
	}
	d := made(t, 1, file("a", "", ""))
	does(t, d, trim("a", 0))
	refuses(t, d, api.ErrArg, trim("a", 1), trim("a", -1))
	refuses(t, d, api.ErrNone, trim("b", 0), trim("b", -1), trim("", 0))
	has(t, d, file("a", "", ""))
}

func TestRenameTakesAnothersPlace(t *testing.T) {
	d := made(t, 9, file("a", "1", "2"), file("b", "34", ""), file("c", "", "567"))
	refuses(t, d, api.ErrArg, rename("a", "a"), rename("b", "b"), rename("c", "c"))
	refuses(t, d, api.ErrNone, rename("d", "a"), rename("d", "e"), rename("d", "d"), rename("", "a"), rename("", ""), rename("d", "a/b"))
	refuses(t, d, api.ErrForm, rename("a", ""), rename("a", "a/b"), rename("c", strings.Repeat("c", 25)))
	does(t, d, rename("a", "d"))
	has(t, d, file("b", "34", ""), file("c", "", "567"), file("d", "1", "2"))
	refuses(t, d, api.ErrNone, rename("a", "b"), sync("a"))
	does(t, d, rename("d", "b"))
	has(t, d, file("b", "1", "2"), file("c", "", "567"))
	does(t, d, rename("c", "A"), write("b", "x"), create("c"))
	has(t, d, file("A", "", "567"), file("b", "1", "2x"), file("c", "", ""))
	does(t, d, rename("b", "c"))
	has(t, d, file("A", "", "567"), file("c", "1", "2x"))
	crashes(t, d)
	has(t, d, file("A", "", ""), file("c", "1", ""))
}

func TestWhatGoesAndIsCreatedAgain(t *testing.T) {
	d := made(t, 9, file("a", "12", "34"), file("b", "x", "y"))
	does(t, d, remove("a"))
	has(t, d, file("b", "x", "y"))
	refuses(t, d, api.ErrNone, remove("a"), sync("a"), trim("a", 0), write("a", "x"), rename("a", "c"), remove(""), remove("a/b"))
	does(t, d, create("a"))
	has(t, d, file("a", "", ""), file("b", "x", "y"))
	does(t, d, write("a", "5"))
	crashes(t, d, 1, 1)
	has(t, d, file("a", "5", ""), file("b", "xy", ""))
	does(t, d, remove("a"), remove("b"))
	has(t, d)
	crashes(t, d)
	has(t, d)
}

func TestReadIsAllBytesSyncedOrNot(t *testing.T) {
	d := made(t, 9, file("a", "12", "34"), file("b", "x", ""), file("c", "", "y"), file("d", "", ""))
	for name, want := range map[string]string{"a": "1234", "b": "x", "c": "y", "d": ""} {
		if s, e := d.Read(name); s != want || e != api.OK {
			t.Errorf("Read(%q): %q, %d", name, s, e)
		}
	}
	for _, name := range []string{"", "e", "A", "a/b", "ab", strings.Repeat("a", 25)} {
		if s, e := d.Read(name); s != "" || e != api.ErrNone {
			t.Errorf("Read(%q): %q, %d", name, s, e)
		}
	}
}

func TestTheFirstErrorCounts(t *testing.T) {
	l := numbered(64)
	l[0].Name = "A"
	l[1].Data = whole
	d := made(t, 1<<20, l...)
	refuses(t, d, api.ErrForm, create("a b"))
	refuses(t, d, api.ErrTwice, create("A"))
	refuses(t, d, api.ErrFull, create("a"), write("A", "x"), write("f001", "x"))
	refuses(t, d, api.ErrNone, write("a", "x"), write("a", whole+"x"), trim("a", -1), trim("a/b", 9), rename("a", "a"), rename("a/b", "a/b"), rename("a", "a/b"))
	refuses(t, d, api.ErrForm, rename("A", "A/"))
	// The cut comes at last: what is wrong ahead of it counts.
	cuts(t, d, 0)
	refuses(t, d, api.ErrForm, create("a b"), rename("A", "A/"))
	refuses(t, d, api.ErrTwice, create("A"))
	refuses(t, d, api.ErrFull, create("a"), write("A", "x"), write("f001", "x"))
	refuses(t, d, api.ErrNone, write("a", ""), sync("a"), trim("a", 0), rename("a", "b"), remove("a"))
	refuses(t, d, api.ErrArg, trim("A", 1), trim("A", -1), rename("A", "A"))
	if !d.Up() {
		t.Error("the power went at what is refused")
	}
}

// P9.2: Cut, Crash, Up, Used, Capacity, Files.

// deeds are all kinds of what is done that are OK, one behind the other, on a
// disk with startFiles; and behind each of them what there is.
var startFiles = []api.File{file("a", "12", "34"), file("b", "x", ""), file("c", "", "")}

var deeds = []struct {
	do   deed
	then []api.File
}{
	{create("d"), []api.File{file("a", "12", "34"), file("b", "x", ""), file("c", "", ""), file("d", "", "")}},
	{write("c", "yz"), []api.File{file("a", "12", "34"), file("b", "x", ""), file("c", "", "yz"), file("d", "", "")}},
	{write("c", ""), []api.File{file("a", "12", "34"), file("b", "x", ""), file("c", "", "yz"), file("d", "", "")}},
	{sync("c"), []api.File{file("a", "12", "34"), file("b", "x", ""), file("c", "yz", ""), file("d", "", "")}},
	{sync("d"), []api.File{file("a", "12", "34"), file("b", "x", ""), file("c", "yz", ""), file("d", "", "")}},
	{trim("a", 3), []api.File{file("a", "123", ""), file("b", "x", ""), file("c", "yz", ""), file("d", "", "")}},
	{write("a", "5"), []api.File{file("a", "123", "5"), file("b", "x", ""), file("c", "yz", ""), file("d", "", "")}},
	{rename("a", "b"), []api.File{file("b", "123", "5"), file("c", "yz", ""), file("d", "", "")}},
	{rename("c", "a"), []api.File{file("a", "yz", ""), file("b", "123", "5"), file("d", "", "")}},
	{remove("d"), []api.File{file("a", "yz", ""), file("b", "123", "5")}},
	{remove("b"), []api.File{file("a", "yz", "")}},
	{trim("a", 2), []api.File{file("a", "yz", "")}},
	{sync("a"), []api.File{file("a", "yz", "")}},
}

func TestACutIsHowManyAreDoneStill(t *testing.T) {
	for n := range len(deeds) {
		d := made(t, 20, startFiles...)
		cuts(t, d, n)
		has(t, d, startFiles...)
		then := startFiles
		for _, x := range deeds[:n] {
			does(t, d, x.do)
			has(t, d, x.then...)
			then = x.then
			if !d.Up() {
				t.Fatalf("Cut(%d): the power is gone behind %v", n, x.do)
			}
		}
		next := deeds[n]
		if e := next.do.on(d); e != api.ErrCut || d.Up() {
			t.Errorf("Cut(%d): %v: %d, up: %v", n, next.do, e, d.Up())
		}
		// What is not done leaves what there was; of an Append the bytes are pending.
		if next.do.what == "Append" {
			then = next.then
		}
		has(t, d, then...)
		for _, x := range deeds {
			refuses(t, d, api.ErrCut, x.do)
		}
	}
}

func TestACutOfMoreThanIsDone(t *testing.T) {
	for _, n := range []int{len(deeds), len(deeds) + 1, 1000, math.MaxInt} {
		d := made(t, 20, startFiles...)
		cuts(t, d, n)
		for _, x := range deeds {
			does(t, d, x.do)
			has(t, d, x.then...)
		}
		if e := d.Sync("a"); !d.Up() == (n > len(deeds)) || e == api.OK != (n > len(deeds)) {
			t.Errorf("Cut(%d): one more: %d, up: %v", n, e, d.Up())
		}
	}
}

func TestATornAppendIsPending(t *testing.T) {
	for _, c := range []struct {
		f     api.File
		bytes string
	}{
		{file("a", "", ""), "xyz"}, {file("a", "12", ""), "xyz"}, {file("a", "12", "34"), "xyz"},
		{file("a", "", "34"), ""}, {file("a", "12", ""), ""}, {file("a", "", ""), "12345678"},
	} {
		d := made(t, 8, c.f)
		cuts(t, d, 0)
		refuses(t, d, api.ErrFull, write("a", "123456789"))
		if e := d.Append("a", c.bytes); e != api.ErrCut {
			t.Errorf("Append of %q to %q: %d", c.bytes, c.f, e)
		}
		c.f.Pending += c.bytes
		has(t, d, c.f)
		refuses(t, d, api.ErrCut, write("a", "x"), write("a", ""))
		crashes(t, d, len(c.f.Pending))
		has(t, d, file("a", c.f.Data+c.f.Pending, ""))
	}
}

func TestWhatIsAskedIsNotCounted(t *testing.T) {
	d := made(t, 20, startFiles...)
	cuts(t, d, 1)
	for range 3 {
		has(t, d, startFiles...)
		d.Copy().Delete("a")
		if _, e := d.Read("z"); e != api.ErrNone || !d.Up() || d.Capacity() != 20 || !disk.Same(d, d) {
			t.Errorf("Read: %d, up: %v", e, d.Up())
		}
	}
	does(t, d, remove("a"))
	has(t, d, startFiles[1:]...)
	if e := d.Delete("b"); e != api.ErrCut {
		t.Errorf("Delete: %d", e)
	}
}

func TestAnErrorIsNotCounted(t *testing.T) {
	wrongs := func(d *disk.Disk) {
		refuses(t, d, api.ErrForm, create(""), rename("b", ""))
		refuses(t, d, api.ErrTwice, create("b"))
		refuses(t, d, api.ErrFull, write("b", strings.Repeat("x", 21)))
		refuses(t, d, api.ErrNone, write("z", "x"), sync("z"), trim("z", 0), rename("z", "b"), remove("z"))
		refuses(t, d, api.ErrArg, trim("b", -1), trim("b", 99), rename("b", "b"))
		if e := d.Cut(-1); e != api.ErrArg {
			t.Errorf("Cut(-1): %d", e)
		}
	}
	for n := range 4 {
		d := made(t, 20, file("b", "", ""))
		cuts(t, d, n)
		for range n {
			wrongs(d)
			does(t, d, sync("b"))
		}
		wrongs(d)
		if e := d.Sync("b"); e != api.ErrCut || d.Up() {
			t.Errorf("Cut(%d): %d, up: %v", n, e, d.Up())
		}
	}
}

func TestACutTakesTheFormerOnesPlace(t *testing.T) {
	for _, former := range []int{0, 1, 2, 5, math.MaxInt} {
		for n := range 5 {
			d := made(t, 9, file("a", "", ""))
			cuts(t, d, former)
			if former > 0 {
				does(t, d, write("a", "x"))
			}
			cuts(t, d, n)
			for _, wrong := range []int{-1, -2, math.MinInt} {
				if e := d.Cut(wrong); e != api.ErrArg {
					t.Errorf("Cut(%d): %d", wrong, e)
				}
			}
			for range n {
				does(t, d, sync("a"))
			}
			if e := d.Sync("a"); e != api.ErrCut {
				t.Errorf("Cut(%d) behind Cut(%d): %d", n, former, e)
			}
		}
	}
}

// answers are what a disk answers an error to, whatever it is handed, but Crash.
var answers = []func(d *disk.Disk) (nothing bool, e api.Errno){
	func(d *disk.Disk) (bool, api.Errno) { return true, d.Cut(0) },
	func(d *disk.Disk) (bool, api.Errno) { return true, d.Cut(-1) },
	func(d *disk.Disk) (bool, api.Errno) { return true, d.Cut(math.MaxInt) },
	func(d *disk.Disk) (bool, api.Errno) { s, e := d.Read("a"); return s == "", e },
	func(d *disk.Disk) (bool, api.Errno) { s, e := d.Read("z"); return s == "", e },
	func(d *disk.Disk) (bool, api.Errno) { s, e := d.Read(""); return s == "", e },
	func(d *disk.Disk) (bool, api.Errno) { l, e := d.List(); return len(l) == 0, e },
	func(d *disk.Disk) (bool, api.Errno) { b, f, e := d.Room(); return b == 0 && f == 0, e },
}

// answersAll says whether all that is done and asked is refused so.
func answersAll(t *testing.T, d *disk.Disk, want api.Errno) {
	t.Helper()
	for i, ask := range answers {
		if nothing, e := ask(d); e != want || !nothing {
			t.Errorf("answer %d: %d, not %d, nothing: %v", i, e, want, nothing)
		}
	}
	for _, x := range []deed{
		create("a"), create("z"), create(""), create("a/b"), write("a", "x"), write("a", ""), write("z", "x"), write("a", whole+"x"),
		sync("a"), sync("z"), sync(""), trim("a", 0), trim("a", -1), trim("a", 99), trim("z", 0),
		rename("a", "b"), rename("a", "z"), rename("a", "a"), rename("a", ""), rename("z", "a"), remove("a"), remove("z"), remove(""),
	} {
		if e := x.on(d); e != want {
			t.Errorf("%v: %d, not %d", x, e, want)
		}
	}
}

func TestWhileThePowerIsGone(t *testing.T) {
	d := made(t, 20, startFiles...)
	cuts(t, d, 0)
	if e := d.Append("b", "yz"); e != api.ErrCut {
		t.Fatalf("Append: %d", e)
	}
	left := []api.File{file("a", "12", "34"), file("b", "x", "yz"), file("c", "", "")}
	for range 2 {
		answersAll(t, d, api.ErrCut)
		has(t, d, left...)
		if d.Up() || d.Used() != 7 || d.Capacity() != 20 {
			t.Errorf("up: %v, used %d of %d", d.Up(), d.Used(), d.Capacity())
		}
	}
	crashes(t, d, 1)
	has(t, d, file("a", "123", ""), file("b", "x", ""), file("c", "", ""))
	if !d.Up() {
		t.Error("the power is not there behind a Crash")
	}
	does(t, d, write("b", "1"), sync("b"), remove("a"))
	has(t, d, file("b", "x1", ""), file("c", "", ""))
}

func TestNoDisk(t *testing.T) {
	var none *disk.Disk
	answersAll(t, none, api.ErrNil)
	for _, keep := range [][]int{nil, {}, {1}} {
		if e := none.Crash(keep); e != api.ErrNil {
			t.Errorf("Crash(%d): %d", keep, e)
		}
	}
	if none.Up() || none.Used() != 0 || none.Capacity() != 0 || len(none.Files()) != 0 || none.Copy() != nil {
		t.Errorf("of nil: up: %v, used %d of %d, %q, %v", none.Up(), none.Used(), none.Capacity(), none.Files(), none.Copy())
	}
}

// A Disk that nobody made is one without room: nothing panics.
func TestADiskThatNobodyMade(t *testing.T) {
	var d disk.Disk
	if !disk.Same(&d, made(t, 0)) || !disk.Same(d.Copy(), &d) {
		t.Error("it is not one of capacity 0, without files")
	}
	has(t, &d)
	refuses(t, &d, api.ErrNone, write("a", ""), sync("a"), trim("a", 0), rename("a", "b"), remove("a"))
	crashes(t, &d, 1)
	cuts(t, &d, 2)
	does(t, &d, create("a"), rename("a", "b"))
	has(t, &d, file("b", "", ""))
}

func TestHowMuchStaysAtACrash(t *testing.T) {
	for _, c := range []struct {
		keep, of, stay int
	}{
		{0, 1, 0}, {1, 1, 1}, {2, 1, 0}, {3, 1, 1}, {-1, 1, 1}, {-2, 1, 0}, {math.MaxInt64, 1, 1}, {math.MinInt64, 1, 0},
		{0, 2, 0}, {1, 2, 1}, {2, 2, 2}, {3, 2, 0}, {4, 2, 1}, {-1, 2, 0}, {-2, 2, 2}, {math.MaxInt64, 2, 1}, {math.MinInt64, 2, 2},
		{8, 9, 8}, {9, 9, 9}, {10, 9, 0}, {11, 9, 1}, {12345, 9, 5}, {-1, 9, 5}, {-6, 9, 0}, {-7, 9, 9}, {math.MaxInt64, 9, 7}, {math.MinInt64, 9, 8},
	} {
		for _, data := range []string{"", "123"} {
			pending := "abcdefghi"[:c.of]
			d := made(t, 12, file("a", data, pending))
			crashes(t, d, c.keep)
			has(t, d, file("a", data+pending[:c.stay], ""))
		}
	}
}

func TestWhoseTurnItIsAtACrash(t *testing.T) {
	l := []api.File{file("A", "", "12"), file("a", "x", ""), file("b", "y", "345"), file("c", "", ""), file("d", "", "6")}
	stay := func(first, second, third int) []api.File {
		return []api.File{file("A", "12"[:first], ""), l[1], file("b", "y"+"345"[:second], ""), l[3], file("d", "6"[:third], "")}
	}
	for _, c := range []struct {
		keep []int
		then []api.File
	}{
		{nil, stay(0, 0, 0)},
		{[]int{}, stay(0, 0, 0)},
		{[]int{1}, stay(1, 0, 0)},
		{[]int{2, 3}, stay(2, 3, 0)},
		{[]int{0, 0, 1}, stay(0, 0, 1)},
		{[]int{1, 2, 1}, stay(1, 2, 1)},
		{[]int{3, 4, 2}, stay(0, 0, 0)},
		{[]int{5, 7, 3}, stay(2, 3, 1)},
		{[]int{2, 1, 0, 1, 1}, stay(2, 1, 0)},
		{[]int{-1, -1, -1, 9}, stay(0, 3, 1)},
		{[]int{math.MaxInt64, math.MinInt64, math.MinInt64}, stay(1, 0, 0)},
	} {
		kept := slices.Clone(c.keep)
		up, gone := made(t, 9, l...), made(t, 9, l...)
		cuts(t, gone, 0)
		gone.Sync("b")
		crashes(t, up, c.keep...)
		crashes(t, gone, c.keep...)
		has(t, up, c.then...)
		has(t, gone, c.then...)
		if !up.Up() || !gone.Up() || !disk.Same(up, gone) {
			t.Errorf("Crash(%d): up: %v, %v", c.keep, up.Up(), gone.Up())
		}
		if !slices.Equal(c.keep, kept) {
			t.Errorf("Crash(%d) wrote over what it was handed: %d", kept, c.keep)
		}
		// Nothing is pending any more, so another one changes nothing.
		crashes(t, up, 1, 1, 1)
		has(t, up, c.then...)
	}
}

func TestBehindACrashThereIsNoCut(t *testing.T) {
	for _, n := range []int{0, 1, 3, math.MaxInt} {
		for _, goes := range []int{0, 1} {
			d := made(t, 9, file("a", "", "x"))
			cuts(t, d, n)
			for range n & 3 * goes {
				does(t, d, sync("a"))
			}
			if goes == 1 && n < 4 {
				if e := d.Delete("a"); e != api.ErrCut {
					t.Errorf("Delete: %d", e)
				}
			}
			crashes(t, d)
			for range 9 {
				does(t, d, sync("a"))
			}
			cuts(t, d, 1)
			does(t, d, sync("a"))
		}
	}
}

func TestUsedIsAllThatIsReadOrTorn(t *testing.T) {
	d := made(t, 9, file("a", "1", "23"), file("b", "", ""))
	for _, c := range []struct {
		do   deed
		used int
	}{
		{write("b", "45"), 5}, {sync("b"), 5}, {trim("a", 2), 4}, {write("a", "678"), 7}, {create("c"), 7},
		{rename("c", "b"), 5}, {remove("a"), 0}, {write("b", "123456789"), 9},
	} {
		does(t, d, c.do)
		if d.Used() != c.used || d.Capacity() != 9 {
			t.Errorf("%v: used %d of %d", c.do, d.Used(), d.Capacity())
		}
	}
}

// P9.3: Copy, Same, MayName (see TestWhichNamesMayBe).

// unlike are disks of which each is another one; but the last ones of them are
// like the first ones, and were made otherwise.
func unlike(t *testing.T) []*disk.Disk {
	var l []*disk.Disk
	add := func(d *disk.Disk, cut int, then ...deed) {
		if cut >= 0 {
			cuts(t, d, cut)
		}
		for _, x := range then {
			x.on(d)
		}
		l = append(l, d)
	}
	add(made(t, 9), -1)
	add(made(t, 8), -1)
	add(made(t, 9), 0)
	add(made(t, 9), 1)
	add(made(t, 9), math.MaxInt)
	add(made(t, 9), 0, create("a"))
	add(made(t, 9, file("a", "", "")), -1)
	add(made(t, 9, file("a", "", "")), 0)
	add(made(t, 9, file("a", "", "")), 0, sync("a"))
	add(made(t, 9, file("b", "", "")), -1)
	add(made(t, 9, file("a", "x", "")), -1)
	add(made(t, 9, file("a", "", "x")), -1)
	add(made(t, 9, file("a", "y", "")), -1)
	add(made(t, 9, file("a", "xy", "")), -1)
	add(made(t, 9, file("a", "x", "y")), -1)
	add(made(t, 9, file("a", "", "xy")), -1)
	add(made(t, 9, file("a", "", "xy")), 5)
	add(made(t, 9, file("a", "x", ""), file("b", "", "")), -1)
	add(made(t, 9, file("a", "", ""), file("b", "x", "")), -1)
	return l
}

func TestSameIsWhetherTwoAreTheSame(t *testing.T) {
	l, again := unlike(t), unlike(t)
	var none *disk.Disk
	l, again = append(l, none), append(again, none)
	for i, a := range l {
		for j, b := range again {
			if disk.Same(a, b) != (i == j) || disk.Same(b, a) != (i == j) {
				t.Errorf("Same of disks %d and %d: %v", i, j, i != j)
			}
		}
		if !disk.Same(a, a) || !disk.Same(a, a.Copy()) || !disk.Same(a.Copy(), a) {
			t.Errorf("disk %d is not the same as itself, or its copy", i)
		}
	}
}

func TestSameHangsOnWhatThereIsAlone(t *testing.T) {
	a, b := made(t, 9), made(t, 9, file("a", "x", "yz"))
	does(t, a, create("b"), write("b", "xyz"), trim("b", 1), write("b", "y"), write("b", "z"), rename("b", "a"), create("c"), remove("c"))
	if !disk.Same(a, b) {
		t.Errorf("%v, %v", a, b)
	}
	cuts(t, a, 3)
	cuts(t, b, 5)
	if disk.Same(a, b) {
		t.Error("cuts of 3 and 5 are the same")
	}
	does(t, b, write("a", ""), write("a", ""))
	if !disk.Same(a, b) {
		t.Error("3 are left of 3, and of 5, and it is not the same")
	}
	does(t, a, sync("a"), sync("a"), sync("a"))
	a.Sync("a")
	does(t, b, sync("a"), sync("a"), sync("a"))
	if disk.Same(a, b) {
		t.Error("the power of one is gone, and they are the same")
	}
	b.Sync("a")
	if !disk.Same(a, b) {
		t.Error("the power of both is gone, and they are not the same")
	}
	crashes(t, a)
	crashes(t, b, 7)
	if !disk.Same(a, b) || !disk.Same(a, made(t, 9, file("a", "xyz", ""))) {
		t.Error("behind a Crash they are not the same")
	}
}

func TestACopyGoesItsOwnWay(t *testing.T) {
	for i, d := range unlike(t) {
		former := d.Files()
		c := d.Copy()
		if c == d || c.Capacity() != d.Capacity() || c.Up() != d.Up() {
			t.Fatalf("disk %d: its copy is not like it", i)
		}
		has(t, c, former...)
		second := c.Copy()
		crashes(t, c, 1)
		c.Create("z")
		c.Append("a", "1")
		c.Append("z", "2")
		c.Delete("b")
		cuts(t, c, 1)
		has(t, d, former...)
		has(t, second, former...)
		if !disk.Same(d, second) || disk.Same(d, c) {
			t.Errorf("disk %d: its copy does not go its own way", i)
		}
		gone := c.Copy()
		crashes(t, d, 1)
		for _, f := range former {
			d.Rename(f.Name, "y")
		}
		if !disk.Same(gone, c) {
			t.Errorf("disk %d: its copy goes its way", i)
		}
	}
}

// paper is a disk by the words of the document.
type paper struct {
	capacity int
	files    []api.File // by rising names
	gone     bool
	cut      int // below 0: there is none
}

func (p *paper) place(name string) (int, bool) {
	return slices.BinarySearchFunc(p.files, name, func(f api.File, name string) int { return strings.Compare(f.Name, name) })
}

func (p *paper) used() int {
	n := 0
	for _, f := range p.files {
		n += len(f.Data + f.Pending)
	}
	return n
}

// wrong is what keeps a deed from being OK, but a cut.
func (p *paper) wrong(x deed) api.Errno {
	at, is := p.place(x.name)
	switch {
	case p.gone:
		return api.ErrCut
	case x.what == "Create" && !disk.MayName(x.name):
		return api.ErrForm
	case x.what == "Create" && is:
		return api.ErrTwice
	case x.what == "Create" && len(p.files) == 64:
		return api.ErrFull
	case x.what == "Create":
		return api.OK
	case !is:
		return api.ErrNone
	}
	has := len(p.files[at].Data + p.files[at].Pending)
	switch {
	case x.what == "Append" && (has+len(x.text) > 1<<20 || p.used()+len(x.text) > p.capacity):
		return api.ErrFull
	case x.what == "Trim" && (x.n < 0 || x.n > has):
		return api.ErrArg
	case x.what == "Rename" && !disk.MayName(x.text):
		return api.ErrForm
	case x.what == "Rename" && x.text == x.name:
		return api.ErrArg
	}
	return api.OK
}

// becomes is what becomes of the files by a deed that is OK.
func (p *paper) becomes(x deed) {
	at, is := p.place(x.name)
	if !is {
		p.files = slices.Insert(p.files, at, file(x.name, "", ""))
		return
	}
	f := p.files[at]
	switch x.what {
	case "Append":
		p.files[at].Pending += x.text
	case "Sync":
		p.files[at] = file(f.Name, f.Data+f.Pending, "")
	case "Trim":
		p.files[at] = file(f.Name, (f.Data + f.Pending)[:x.n], "")
	case "Delete", "Rename":
		p.files = slices.Delete(p.files, at, at+1)
	}
	if x.what == "Rename" {
		to, is := p.place(x.text)
		if is {
			p.files = slices.Delete(p.files, to, to+1)
		}
		p.files = slices.Insert(p.files, to, file(x.text, f.Data, f.Pending))
	}
}

func (p *paper) do(x deed) api.Errno {
	if wrong := p.wrong(x); wrong != api.OK {
		return wrong
	}
	if p.cut == 0 {
		p.gone = true
		if x.what == "Append" {
			p.becomes(x)
		}
		return api.ErrCut
	}
	if p.cut > 0 {
		p.cut--
	}
	p.becomes(x)
	return api.OK
}

func (p *paper) crash(keep []int) {
	turn := 0
	for i, f := range p.files {
		n := uint64(len(f.Pending))
		if n == 0 {
			continue
		}
		stay := uint64(0)
		if turn < len(keep) {
			stay = uint64(keep[turn])
			stay -= stay / (n + 1) * (n + 1)
		}
		turn++
		p.files[i] = file(f.Name, f.Data+f.Pending[:stay], "")
	}
	p.gone, p.cut = false, -1
}

var fewNames = []string{"a", "b", "c", "d.new", "A-_9", "a", "b", "", "a/b", strings.Repeat("x", 25)}

// deed is any one.
func (d *dice) deed() deed {
	x := deed{what: []string{"Create", "Append", "Append", "Append", "Sync", "Trim", "Rename", "Delete"}[d.below(8)]}
	x.name = fewNames[d.below(len(fewNames))]
	switch x.what {
	case "Append":
		x.text = "0123456789abcdefghijklmnopqrstuvwxyz"[d.below(20):][:d.below(16)]
	case "Trim":
		x.n = d.below(20) - 2
	case "Rename":
		x.text = fewNames[d.below(len(fewNames))]
	}
	return x
}

func (d *dice) keep() []int {
	var l []int
	for range d.below(6) {
		l = append(l, d.any())
	}
	return l
}

// disk is any one, with what was done to it.
func (d *dice) disk(t *testing.T) *disk.Disk {
	l := made(t, d.below(80))
	for range d.below(40) {
		d.deed().on(l)
	}
	return l
}

func TestWhateverIsDoneByTheWords(t *testing.T) {
	for seed := range 400 {
		dice := dice(seed + 1)
		p := &paper{capacity: dice.below(60), cut: -1}
		d := made(t, p.capacity)
		for range 200 {
			switch dice.below(16) {
			case 0:
				n := dice.below(8) - 1
				want := api.OK
				switch {
				case p.gone:
					want = api.ErrCut
				case n < 0:
					want = api.ErrArg
				default:
					p.cut = n
				}
				if e := d.Cut(n); e != want {
					t.Fatalf("Cut(%d): %d, not %d", n, e, want)
				}
			case 1:
				keep := dice.keep()
				p.crash(keep)
				crashes(t, d, keep...)
			default:
				x := dice.deed()
				want := p.do(x)
				if e := x.on(d); e != want {
					t.Fatalf("%v: %d, not %d", x, e, want)
				}
			}
			if d.Up() != !p.gone {
				t.Fatalf("up: %v", d.Up())
			}
			has(t, d, p.files...)
		}
	}
}

// P9.4 (as a map).

func TestADiskIsAMap(t *testing.T) {
	for seed := range 200 {
		dice := dice(seed + 1000)
		d, m := made(t, math.MaxInt), map[string]string{}
		for range 200 {
			x := dice.deed()
			s, is := m[x.name]
			if e := x.on(d); e != api.OK {
				continue
			}
			if is == (x.what == "Create") {
				t.Fatalf("%v is OK, and that it is there: %v", x, is)
			}
			switch x.what {
			case "Create":
				m[x.name] = ""
			case "Append":
				m[x.name] = s + x.text
			case "Trim":
				m[x.name] = s[:x.n]
			case "Rename":
				m[x.text] = s
				delete(m, x.name)
			case "Delete":
				delete(m, x.name)
			}
			l, e := d.List()
			if e != api.OK || len(l) != len(m) || !slices.IsSorted(l) {
				t.Fatalf("%v: List: %q, %d, of %q", x, l, e, m)
			}
			for name, want := range m {
				if s, e := d.Read(name); s != want || e != api.OK {
					t.Fatalf("%v: Read(%q): %q, %d, not %q", x, name, s, e, want)
				}
			}
		}
	}
}

// P9.5 (for good).

func TestBehindACrash(t *testing.T) {
	for seed := range 3000 {
		dice := dice(seed + 2000)
		d := dice.disk(t)
		if l, e := d.List(); dice.below(4) == 0 && len(l) > 0 {
			does(t, d, sync(l[0]))
		} else if e != api.OK {
			t.Fatal(e)
		}
		former, keep := d.Files(), dice.keep()
		if dice.below(2) == 0 {
			cuts(t, d, 0)
			for _, f := range former {
				d.Sync(f.Name)
			}
		}
		crashes(t, d, keep...)
		l := d.Files()
		if len(l) != len(former) || !d.Up() {
			t.Fatalf("%d files of %d, up: %v", len(l), len(former), d.Up())
		}
		turns := slices.Clone(keep)
		for i, f := range former {
			stay := 0
			if f.Pending != "" && len(turns) > 0 {
				stay, turns = int(uint64(turns[0])%uint64(len(f.Pending)+1)), turns[1:]
			}
			if l[i] != file(f.Name, f.Data+f.Pending[:stay], "") {
				t.Fatalf("Crash(%d): of %q is %q", keep, f, l[i])
			}
		}
		has(t, d, l...)
	}
}

// P9.6 (so many).

// run is what came of a list of deeds, one behind the other.
type run struct {
	errors []api.Errno
	files  [][]api.File // behind each of them
}

func runs(d *disk.Disk, l []deed) (r run) {
	for _, x := range l {
		r.errors = append(r.errors, x.on(d))
		r.files = append(r.files, d.Files())
	}
	return r
}

func TestAsManyAreDoneAsTheCutSays(t *testing.T) {
	for seed := range 150 {
		dice := dice(seed + 6000)
		d := dice.disk(t)
		var l []deed
		for range 30 {
			l = append(l, dice.deed())
		}
		free := runs(d.Copy(), l)
		for n := range 31 {
			c := d.Copy()
			cuts(t, c, n)
			got := runs(c, l)
			left, gone := n, false
			for i, x := range l {
				want, files := free.errors[i], free.files[i]
				switch {
				case gone:
					want, files = api.ErrCut, got.files[i-1]
				case want == api.OK && left > 0:
					left--
				case want == api.OK:
					want, gone = api.ErrCut, true
					if x.what != "Append" && i > 0 {
						files = free.files[i-1]
					} else if x.what != "Append" {
						files = d.Files()
					}
				}
				if got.errors[i] != want || !slices.Equal(got.files[i], files) {
					t.Fatalf("Cut(%d): %d: %v: %d, not %d; %q, not %q", n, i, x, got.errors[i], want, got.files[i], files)
				}
			}
			if c.Up() == gone {
				t.Fatalf("Cut(%d): up: %v", n, c.Up())
			}
		}
	}
}

// P9.7 (room).

func TestRoomIsWhatAppendAndCreateTake(t *testing.T) {
	for seed := range 300 {
		dice := dice(seed + 7000)
		d := dice.disk(t)
		if d.Used() > d.Capacity() || len(d.Files()) > 64 {
			t.Fatalf("used %d of %d, %d files", d.Used(), d.Capacity(), len(d.Files()))
		}
		bytes, files, e := d.Room()
		if e != api.OK {
			t.Fatal(e)
		}
		c := d.Copy()
		for i := range files {
			does(t, c, create(fmt.Sprintf("new%d", i)))
		}
		refuses(t, c, api.ErrFull, create("new"))
		for i, f := range c.Files() {
			if i%21 > 0 {
				continue
			}
			refuses(t, c, api.ErrFull, write(f.Name, strings.Repeat("x", bytes+1)))
			one := c.Copy()
			does(t, one, write(f.Name, strings.Repeat("x", bytes)))
			refuses(t, one, api.ErrFull, write(f.Name, "x"))
			if left, _, e := one.Room(); left != 0 || e != api.OK {
				t.Fatalf("Room: %d, %d, behind all that it told", left, e)
			}
		}
	}
}

func TestAFileIsFullWhereTheDiskIsNot(t *testing.T) {
	d := made(t, 1<<20+10, file("a", whole[:1<<20-3], ""), file("b", "", ""))
	bytes, files, e := d.Room()
	if bytes != 13 || files != 62 || e != api.OK {
		t.Errorf("Room: %d, %d, %d", bytes, files, e)
	}
	refuses(t, d, api.ErrFull, write("a", "1234"), write("b", "12345678901234"))
	does(t, d, write("a", "123"), write("b", "1234567890"))
	refuses(t, d, api.ErrFull, write("a", "1"), write("b", "1"))
}

func TestAFullDiskOfFullFiles(t *testing.T) {
	l := numbered(64)
	for i := range l {
		l[i].Data, l[i].Pending = whole[:i], whole[i:]
	}
	d := made(t, 64<<20, l...)
	has(t, d, l...)
	refuses(t, d, api.ErrFull, write("f000", "x"), write("f063", "x"), create("x"))
	notLoaded(t, 64<<20-1, api.ErrFull, l...)
	roomy := made(t, 65<<20, l...)
	refuses(t, roomy, api.ErrFull, write("f000", "x"))
}

// P9.8 (copies).

func TestADiskOfADisksFiles(t *testing.T) {
	for seed := range 2000 {
		dice := dice(seed + 8000)
		d := dice.disk(t)
		again := made(t, d.Capacity(), d.Files()...)
		if !disk.Same(d, again) || !disk.Same(again, d.Copy()) {
			t.Fatalf("a disk of %q is another one", d.Files())
		}
		l := []deed{dice.deed(), dice.deed(), dice.deed(), dice.deed()}
		one, two := runs(d.Copy(), l), runs(again, l)
		if !slices.Equal(one.errors, two.errors) || !slices.EqualFunc(one.files, two.files, slices.Equal) {
			t.Fatalf("%v: %v, of the other one %v", l, one, two)
		}
		cuts(t, d, 0)
		if again = made(t, d.Capacity(), d.Files()...); disk.Same(d, again) {
			t.Fatal("a disk of a disk's files has its cut")
		}
		d.Create("z")
		again = made(t, d.Capacity(), d.Files()...)
		has(t, again, d.Files()...)
		if disk.Same(d, again) || !again.Up() {
			t.Fatal("a disk of a disk's files has not the power")
		}
	}
}

func TestCopiesOfAnyDiskGoTheirOwnWay(t *testing.T) {
	for seed := range 1000 {
		dice := dice(seed + 9000)
		d := dice.disk(t)
		if dice.below(2) == 0 {
			cuts(t, d, dice.below(3))
		}
		var l, other []deed
		for range 10 {
			l, other = append(l, dice.deed()), append(other, dice.deed())
		}
		alone := runs(d.Copy(), l)
		c := d.Copy()
		var got run
		for i := range l {
			one := runs(d, l[i:i+1])
			other[i].on(c)
			got.errors, got.files = append(got.errors, one.errors...), append(got.files, one.files...)
		}
		if !slices.Equal(alone.errors, got.errors) || !slices.EqualFunc(alone.files, got.files, slices.Equal) {
			t.Fatalf("%v: %v, beside a copy %v", l, alone, got)
		}
	}
}

// R1.

func TestWhatIsToldMayBeWrittenOver(t *testing.T) {
	d := made(t, 9, file("a", "1", "2"), file("b", "", "3"))
	for range 2 {
		l := d.Files()
		l[0], l[1] = file("x", "y", "z"), api.File{}
		_ = append(l[:1], file("c", "", ""))
		names, _ := d.List()
		names[0], names[1] = "z", ""
		_ = append(names[:0], "c", "d")
		has(t, d, file("a", "1", "2"), file("b", "", "3"))
	}
}

func TestWhatIsHandedInStays(t *testing.T) {
	all := []api.File{file("a", "1", "2"), file("b", "", "3"), file("c", "x", "y")}
	l := slices.Clone(all)
	d := made(t, 9, l[:2]...)
	notLoaded(t, 1, api.ErrFull, l...)
	does(t, d, remove("b"), write("a", "4"), create("c"))
	if !slices.Equal(l, all) {
		t.Errorf("Load wrote over its list: %q", l)
	}
	l[0], l[1] = file("z", "", ""), file("y", "9", "9")
	has(t, d, file("a", "1", "24"), file("c", "", ""))
	keep := []int{5, -1, 7, 8}
	crashes(t, d, keep[:2]...)
	if !slices.Equal(keep, []int{5, -1, 7, 8}) {
		t.Errorf("Crash wrote over its list: %d", keep)
	}
}

// The chapter's examples.

func TestExamples(t *testing.T) {
	refuses(t, made(t, 2, file("a", "", "")), api.ErrFull, write("a", "abc"))
	for keep, want := range map[int]string{1: "xy", 2: "xyz", 3: "x"} {
		d := made(t, 9)
		does(t, d, create("a"), write("a", "x"), sync("a"), write("a", "yz"))
		none := d.Copy()
		crashes(t, d, keep)
		crashes(t, none)
		has(t, d, file("a", want, ""))
		has(t, none, file("a", "x", ""))
	}
	d := made(t, 9)
	cuts(t, d, 1)
	does(t, d, create("a"))
	if e := d.Append("a", "x"); e != api.ErrCut {
		t.Errorf("Append: %d", e)
	}
	if s, e := d.Read("a"); s != "" || e != api.ErrCut {
		t.Errorf("Read: %q, %d", s, e)
	}
	crashes(t, d, 1)
	has(t, d, file("a", "x", ""))
	d = made(t, 9, file("a", "1", "2"), file("b", "3", "4"))
	does(t, d, rename("a", "b"))
	has(t, d, file("b", "1", "2"))
	d = made(t, 9, file("a", "1", "2"))
	does(t, d, trim("a", 0))
	crashes(t, d, 1)
	has(t, d, file("a", "", ""))
	refuses(t, d, api.ErrForm, create("a/b"))
}
