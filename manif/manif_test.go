package manif_test

import (
	"encoding/binary"
	"fmt"
	"hash/crc32"
	"maps"
	"math"
	"slices"
	"strings"
	"testing"

	"souk/api"
	"souk/disk"
	"souk/manif"
	"souk/seg"
)

// The limits, by the words of the document.
const (
	maxSeq   = 1048576
	maxGen   = 99999999
	maxFiles = 64
)

// dice tells numbers that look like any, the same ones in each run.
type dice uint64

func (d *dice) next() uint64 {
	*d ^= *d << 13
	*d ^= *d >> 7
	*d ^= *d << 17
	return uint64(*d) * 0x2545F4914F6CDD1D
}

func (d *dice) below(n int) int { return int(d.next() >> 1 % uint64(n)) }

// upTo tells a number from 0 to n: small ones as often as great ones.
func (d *dice) upTo(n int64) int64 { return int64(d.below(int(n)+1)) >> d.below(28) }

func (d *dice) text(n int) string {
	b := make([]byte, n)
	for i := range b {
		b[i] = byte(d.next() >> 24)
	}
	return string(b)
}

// manifest is one of n segments, that may be.
func (d *dice) manifest(n int) manif.Manifest {
	m := manif.Manifest{Gen: d.upTo(maxGen)}
	firsts := map[int64]bool{}
	for len(firsts) < n {
		firsts[d.upTo(maxSeq)] = true
	}
	for _, first := range slices.Sorted(maps.Keys(firsts)) {
		m.Segs = append(m.Segs, manif.Entry{Gen: d.upTo(m.Gen), First: first})
	}
	return m
}

// of is a manifest, of its generation and each segment's generation and first
// batch.
func of(gen int64, l ...int64) manif.Manifest {
	m := manif.Manifest{Gen: gen}
	for pair := range slices.Chunk(l, 2) {
		m.Segs = append(m.Segs, manif.Entry{Gen: pair[0], First: pair[1]})
	}
	return m
}

// long is a manifest of n segments, from 0 on, each of so many batches.
func long(n int, gen, batches int64) manif.Manifest {
	m := manif.Manifest{Gen: gen}
	for i := range int64(n) {
		m.Segs = append(m.Segs, manif.Entry{Gen: i % (gen + 1), First: i * batches})
	}
	return m
}

// own is a manifest that shares nothing with another one.
func own(m manif.Manifest) manif.Manifest {
	return manif.Manifest{Gen: m.Gen, Segs: slices.Clone(m.Segs)}
}

// none tells whether a manifest is the zero value.
func none(m manif.Manifest) bool { return m.Gen == 0 && len(m.Segs) == 0 }

// equal tells whether manifests are the same, by their fields.
func equal(a, b manif.Manifest) bool {
	if a.Gen != b.Gen || len(a.Segs) != len(b.Segs) {
		return false
	}
	for i := range a.Segs {
		if a.Segs[i].Gen != b.Segs[i].Gen || a.Segs[i].First != b.Segs[i].First {
			return false
		}
	}
	return true
}

// slowMay tells by the words of the document whether a manifest may be.
func slowMay(m manif.Manifest) bool {
	may := len(m.Segs) >= 1 && len(m.Segs) <= maxFiles && m.Gen >= 0 && m.Gen <= maxGen
	for i, s := range m.Segs {
		may = may && s.First >= 0 && s.First <= maxSeq && s.Gen >= 0 && s.Gen <= m.Gen
		for _, ahead := range m.Segs[:min(i, 99)] {
			may = may && ahead.First < s.First
		}
	}
	return may
}

// summed is a text with its checksum behind it, the lowest byte first.
func summed(s string) string {
	return s + string(binary.LittleEndian.AppendUint32(nil, crc32.ChecksumIEEE([]byte(s))))
}

// said is a manifest's bytes without the checksum, whether it may be or not, by
// another word and with another count than it has.
func said(word string, m manif.Manifest, count int) string {
	b := binary.BigEndian.AppendUint64([]byte(word), uint64(m.Gen))
	b = binary.BigEndian.AppendUint16(b, uint16(count))
	for _, s := range m.Segs {
		b = binary.BigEndian.AppendUint64(b, uint64(s.Gen))
		b = binary.BigEndian.AppendUint64(b, uint64(s.First))
	}
	return string(b)
}

// spelt is a manifest's bytes by the words of the document, whether it may be
// or not.
func spelt(m manif.Manifest) string { return summed(said("man1", m, len(m.Segs))) }

// slowRead reads by the words of the document.
func slowRead(s string) (m manif.Manifest, e api.Errno) {
	if len(s) < 4 {
		return m, api.ErrShort
	}
	body := s[:len(s)-4]
	if summed(body) != s {
		return m, api.ErrSum
	}
	if len(body) < 14 || (len(body)-14)%16 != 0 {
		return m, api.ErrForm
	}
	m.Gen = int64(binary.BigEndian.Uint64([]byte(body[4:])))
	for at := 14; at < len(body); at += 16 {
		gen, first := binary.BigEndian.Uint64([]byte(body[at:])), binary.BigEndian.Uint64([]byte(body[at+8:]))
		m.Segs = append(m.Segs, manif.Entry{Gen: int64(gen), First: int64(first)})
	}
	if !slowMay(m) || spelt(m) != s {
		return manif.Manifest{}, api.ErrForm
	}
	return m, api.OK
}

// makes tells a manifest's bytes, which must be.
func makes(t *testing.T, m manif.Manifest) string {
	t.Helper()
	s, e := manif.Make(m)
	if e != api.OK {
		t.Fatalf("Make(%v): %d", m, e)
	}
	return s
}

// reads says what is wrong with what is read.
func reads(t *testing.T, s string) api.Errno {
	t.Helper()
	m, e := manif.Read(s)
	want, err := slowRead(s)
	if !equal(m, want) || e != err {
		t.Errorf("Read(% X): %v, %d, not %v, %d", s, m, e, want, err)
	}
	return e
}

// refused says what is wrong with how bytes are refused, with nothing beside
// the error.
func refused(t *testing.T, s string, want api.Errno) {
	t.Helper()
	if m, e := manif.Read(s); !none(m) || e != want {
		t.Errorf("Read(% X): %v, %d, not %d", s, m, e, want)
	}
	d := holding(t, 20000, data("MANIFEST", s))
	if m, e := manif.Load(d); !none(m) || e != want {
		t.Errorf("Load of % X: %v, %d, not %d", s, m, e, want)
	}
}

// some are manifests that may be: the edges, and some between.
func some() []manif.Manifest {
	l := []manif.Manifest{
		of(0, 0, 0), of(0, 0, maxSeq), of(maxGen, 0, 0), of(maxGen, maxGen, maxSeq), of(2, 1, 0, 2, 7), of(1, 0, 0, 1, 1),
		of(1, 1, 0, 0, maxSeq), of(maxGen, maxGen, maxSeq-1, maxGen-1, maxSeq), of(258, 3, 1, 258, 65536, 0, maxSeq-1),
		long(maxFiles-1, 3, 7), long(maxFiles, 0, 1), long(maxFiles, maxGen, maxSeq/maxFiles), long(maxFiles, 64, 16644),
	}
	d := dice(11)
	for n := 1; n <= maxFiles; n++ {
		l = append(l, d.manifest(n))
	}
	return l
}

// noSome are manifests that may not be.
func noSome() []manif.Manifest {
	l := []manif.Manifest{
		{}, {Gen: 5}, {Segs: []manif.Entry{}}, {Gen: maxGen}, {Gen: -1}, {Gen: maxGen + 1},
		of(-1, -1, 0), of(-1, 0, 0), of(maxGen+1, 0, 0), of(maxGen+1, maxGen+1, 0), of(math.MaxInt64, 0, 0), of(math.MinInt64, 0, 0),
		of(0, -1, 0), of(0, 1, 0), of(2, 3, 0), of(2, 1, 0, 3, 7), of(2, 3, 0, 1, 7), of(2, 1, 0, -1, 7), of(5, math.MinInt64, 0), of(5, math.MaxInt64, 0),
		of(0, 0, -1), of(0, 0, maxSeq+1), of(0, 0, 0, 0, maxSeq+1), of(0, 0, -1, 0, 0), of(0, 0, math.MinInt64), of(0, 0, math.MaxInt64),
		of(0, 0, 7, 0, 7), of(1, 0, 7, 1, 7), of(1, 1, 7, 0, 7), of(0, 0, 7, 0, 6), of(0, 0, 0, 0, 5, 0, 5), of(0, 0, 0, 0, 5, 0, 4), of(0, 0, 4, 0, 5, 0, 4),
		of(0, 0, 0, 0, 0), of(0, 0, maxSeq, 0, maxSeq), of(0, 0, maxSeq, 0, 0), of(3, 0, 0, 1, 9, 2, 3, 3, 12),
		long(maxFiles+1, 3, 7), long(maxFiles+1, 0, 1), long(1000, 3, 7), long(65536+2, 0, 1),
	}
	for _, n := range []int{1, 2, 7, maxFiles} {
		for i := range n {
			for _, change := range []func(m *manif.Manifest){
				func(m *manif.Manifest) { m.Segs[i].Gen = -1 },
				func(m *manif.Manifest) { m.Segs[i].Gen = m.Gen + 1 },
				func(m *manif.Manifest) { m.Segs[i].First = -1 },
				func(m *manif.Manifest) { m.Segs[i].First = maxSeq + 1 },
			} {
				m := long(n, 9, 3)
				change(&m)
				l = append(l, m)
			}
			if i > 0 {
				like, falls := long(n, 9, 3), long(n, 9, 3)
				like.Segs[i].First = like.Segs[i-1].First
				falls.Segs[i].First = falls.Segs[i-1].First - 1
				l = append(l, like, falls)
			}
		}
	}
	return l
}

// P13.1: May, Same, Size.

func TestTheLimits(t *testing.T) {
	if api.MaxSeq != maxSeq || api.MaxGen != maxGen || api.MaxFiles != maxFiles || manif.File != "MANIFEST" || manif.Fresh != "MANIFEST.new" {
		t.Errorf("%d, %d, %d, %s, %s", api.MaxSeq, api.MaxGen, api.MaxFiles, manif.File, manif.Fresh)
	}
}

func TestManifestsThatMayBe(t *testing.T) {
	for _, m := range some() {
		if !slowMay(m) {
			t.Fatalf("%v is none that may be", m)
		}
		if !manif.May(m) {
			t.Errorf("May(%v): no", m)
		}
	}
}

func TestManifestsThatMayNotBe(t *testing.T) {
	for _, m := range noSome() {
		if slowMay(m) {
			t.Fatalf("%v is one that may be", m)
		}
		if manif.May(m) {
			t.Errorf("May(%v): yes", m)
		}
	}
}

func TestMayByTheWords(t *testing.T) {
	d := dice(1)
	edges := []int64{-1, 0, 1, 2, 3, 4, maxSeq - 1, maxSeq, maxSeq + 1, maxGen - 1, maxGen, maxGen + 1}
	may := 0
	for range 20000 {
		m := manif.Manifest{Gen: edges[d.below(len(edges))]}
		first := int64(d.below(3)) - 1
		for range d.below(5) {
			gen := m.Gen
			if d.below(3) == 0 {
				gen = edges[d.below(len(edges))]
			}
			m.Segs = append(m.Segs, manif.Entry{Gen: gen, First: first})
			first += int64(d.below(9)) - 1
			if d.below(9) == 0 {
				first = edges[d.below(len(edges))]
			}
		}
		want := slowMay(m)
		if got := manif.May(m); got != want {
			t.Errorf("May(%v): %v", m, got)
		}
		if want {
			may++
		}
	}
	if may < 1000 || may > 19000 {
		t.Errorf("%d that may be", may)
	}
}

func TestSame(t *testing.T) {
	l := append(some(), noSome()...)
	for i, a := range l {
		if !manif.Same(a, a) || !manif.Same(a, own(a)) || !manif.Same(own(a), a) {
			t.Errorf("Same(%v) with itself: no", a)
		}
		for j, b := range l {
			if i%7 == 0 || j%7 == 0 {
				if got := manif.Same(a, b); got != equal(a, b) {
					t.Errorf("Same(%v, %v): %v", a, b, got)
				}
			}
		}
	}
}

func TestSameLooksAtEachField(t *testing.T) {
	for _, m := range some() {
		others := []manif.Manifest{{Gen: m.Gen + 1, Segs: m.Segs}, {Gen: m.Gen}, {Gen: m.Gen, Segs: m.Segs[1:]}, {Gen: m.Gen, Segs: m.Segs[:len(m.Segs)-1]},
			{Gen: m.Gen, Segs: append(slices.Clone(m.Segs), manif.Entry{})}}
		for i := range m.Segs {
			x, y := own(m), own(m)
			x.Segs[i].Gen++
			y.Segs[i].First--
			others = append(others, x, y)
		}
		for _, x := range others {
			if manif.Same(m, x) || manif.Same(x, m) {
				t.Errorf("Same(%v, %v): yes", m, x)
			}
		}
	}
	if !manif.Same(manif.Manifest{Gen: 3}, manif.Manifest{Gen: 3, Segs: []manif.Entry{}}) {
		t.Errorf("no list, and a list of nothing, are not the same")
	}
}

func TestSize(t *testing.T) {
	for n, want := range map[int]int{
		math.MinInt: 0, -1000: 0, -64: 0, -1: 0, 0: 0, 1: 34, 2: 50, 3: 66, 10: 178, maxFiles - 1: 1026, maxFiles: 1042, maxFiles + 1: 0, 100: 0,
		256: 0, 65536: 0, 65537: 0, 1 << 32: 0, 1<<32 + 1: 0, 1<<60 + 1: 0, math.MaxInt: 0,
	} {
		if got := manif.Size(n); got != want {
			t.Errorf("Size(%d): %d, not %d", n, got, want)
		}
	}
	for n := 1; n <= maxFiles; n++ {
		if got := manif.Size(n); got != 4+8+2+n*(8+8)+4 {
			t.Errorf("Size(%d): %d", n, got)
		}
	}
}

// P13.1: Make, Read.

// written are manifests, written out.
var written = []struct {
	m manif.Manifest
	s string
}{
	{of(2, 1, 0, 2, 7), "man1" + "\x00\x00\x00\x00\x00\x00\x00\x02" + "\x00\x02" +
		"\x00\x00\x00\x00\x00\x00\x00\x01" + "\x00\x00\x00\x00\x00\x00\x00\x00" + "\x00\x00\x00\x00\x00\x00\x00\x02" + "\x00\x00\x00\x00\x00\x00\x00\x07" + "\xd5\x2b\x95\x11"},
	{of(0, 0, 0), "\x6d\x61\x6e\x31" + strings.Repeat("\x00", 9) + "\x01" + strings.Repeat("\x00", 16) + "\xd2\x15\xba\x97"},
	{of(maxGen, maxGen, maxSeq), "man1" + "\x00\x00\x00\x00\x05\xf5\xe0\xff" + "\x00\x01" + "\x00\x00\x00\x00\x05\xf5\xe0\xff" + "\x00\x00\x00\x00\x00\x10\x00\x00" + "\xbc\xc3\x67\xac"},
	{of(258, 3, 1, 258, 65536, 0, maxSeq-1), "man1" + "\x00\x00\x00\x00\x00\x00\x01\x02" + "\x00\x03" +
		"\x00\x00\x00\x00\x00\x00\x00\x03" + "\x00\x00\x00\x00\x00\x00\x00\x01" + "\x00\x00\x00\x00\x00\x00\x01\x02" + "\x00\x00\x00\x00\x00\x01\x00\x00" +
		"\x00\x00\x00\x00\x00\x00\x00\x00" + "\x00\x00\x00\x00\x00\x0f\xff\xff" + "\xa7\x82\xab\x22"},
}

func TestManifestsWrittenOut(t *testing.T) {
	for _, c := range written {
		if s, e := manif.Make(c.m); s != c.s || e != api.OK {
			t.Errorf("Make(%v): % X, %d, not % X", c.m, s, e, c.s)
		}
		if m, e := manif.Read(c.s); !equal(m, c.m) || e != api.OK {
			t.Errorf("Read(% X): %v, %d, not %v", c.s, m, e, c.m)
		}
	}
}

func TestMakeByTheWords(t *testing.T) {
	for _, m := range some() {
		if s := makes(t, m); s != spelt(m) {
			t.Errorf("Make(%v): % X, not % X", m, s, spelt(m))
		}
	}
}

// The errors' table, row of Make.

func TestMakeOfWhatMayNotBe(t *testing.T) {
	for _, m := range noSome() {
		if s, e := manif.Make(m); s != "" || e != api.ErrForm {
			t.Errorf("Make(%v): % X, %d", m, s, e)
		}
	}
}

// The errors' table, row of Read.

func TestFewerBytesThanAChecksum(t *testing.T) {
	for _, s := range []string{spelt(of(0, 0, 0)), "\x00\x00\x00\x00", "\xff\xff\xff\xff", "1234", summed("")} {
		for n := range 4 {
			refused(t, s[:n], api.ErrShort)
		}
	}
	refused(t, "", api.ErrShort)
}

func TestJustAChecksum(t *testing.T) {
	refused(t, "\x00\x00\x00\x00", api.ErrForm)
	refused(t, "\x00\x00\x00\x01", api.ErrSum)
	refused(t, "man1", api.ErrSum)
}

func TestBytesCutShort(t *testing.T) {
	for _, m := range []manif.Manifest{of(0, 0, 0), of(2, 1, 0, 2, 7), long(maxFiles, 3, 7)} {
		s := makes(t, m)
		for n := 4; n < len(s); n++ {
			refused(t, s[:n], api.ErrSum)
		}
		for n := 1; n <= len(s)-4; n++ {
			refused(t, s[n:], api.ErrSum)
		}
	}
}

func TestBytesMore(t *testing.T) {
	for _, m := range []manif.Manifest{of(0, 0, 0), of(2, 1, 0, 2, 7), long(maxFiles, 3, 7)} {
		s := makes(t, m)
		for _, more := range []string{"\x00", "x", "\xff", "\x00\x00\x00\x00", s} {
			refused(t, s+more, api.ErrSum)
			refused(t, more+s, api.ErrSum)
		}
		body := s[:len(s)-4]
		for _, more := range []string{"\x00", "x", strings.Repeat("\x00", 8), strings.Repeat("\x00", 15), strings.Repeat("\xff", 16), s} {
			refused(t, summed(body+more), api.ErrForm)
			refused(t, summed(more+body), api.ErrForm)
		}
		refused(t, summed(s), api.ErrForm)
	}
}

func TestSealedButCutShort(t *testing.T) {
	for _, m := range []manif.Manifest{of(0, 0, 0), of(2, 1, 0, 2, 7), long(maxFiles, 3, 7)} {
		body := said("man1", m, len(m.Segs))
		for n := range len(body) {
			refused(t, summed(body[:n]), api.ErrForm)
			refused(t, summed(body[n+1:]), api.ErrForm)
		}
	}
}

func TestAnotherBeginning(t *testing.T) {
	for _, word := range []string{"man0", "man2", "MAN1", "maN1", "Man1", " man", "an1m", "seg1", "snp1", "arc1", "\x00\x00\x00\x00", "1nam", "", "man", "man11"} {
		for _, m := range []manif.Manifest{of(0, 0, 0), of(2, 1, 0, 2, 7), long(maxFiles, 3, 7)} {
			refused(t, summed(said(word, m, len(m.Segs))), api.ErrForm)
		}
	}
	for i := range 4 {
		for bit := range 8 {
			word := []byte("man1")
			word[i] ^= 1 << bit
			refused(t, summed(said(string(word), of(0, 0, 0), 1)), api.ErrForm)
		}
	}
}

func TestAnotherCount(t *testing.T) {
	for _, n := range []int{0, 1, 2, 3, maxFiles - 1, maxFiles, maxFiles + 1, 256, 257} {
		m := long(n, 3, 7)
		for _, count := range []int{0, 1, 2, 3, 4, maxFiles - 1, maxFiles, maxFiles + 1, 255, 256, 257, 65535} {
			if n == count && n >= 1 && n <= maxFiles {
				continue
			}
			refused(t, summed(said("man1", m, count)), api.ErrForm)
		}
	}
}

func TestAManifestInItThatMayNotBe(t *testing.T) {
	for _, m := range noSome() {
		if len(m.Segs) <= 1000 {
			refused(t, spelt(m), api.ErrForm)
			refused(t, spelt(m)[1:], api.ErrSum)
			refused(t, spelt(m)+"x", api.ErrSum)
		}
	}
	for _, high := range []int64{1 << 62, math.MinInt64, math.MinInt64 + 7, -7, 1 << 32, 1<<32 + 7, 1 << 40} {
		refused(t, spelt(of(high, 0, 0)), api.ErrForm)
		refused(t, spelt(of(7, high, 0)), api.ErrForm)
		refused(t, spelt(of(7, 0, high)), api.ErrForm)
	}
}

func TestAnotherChecksum(t *testing.T) {
	for _, m := range append(some(), of(0, 0, 7, 0, 7), of(2, 3, 0), manif.Manifest{}) {
		right := spelt(m)
		body, sum := right[:len(right)-4], binary.LittleEndian.Uint32([]byte(right[len(right)-4:]))
		for name, other := range map[string]uint32{
			"one more": sum + 1, "turned": ^sum, "none": 0, "without the word": crc32.ChecksumIEEE([]byte(body[4:])),
			"of four more bytes": crc32.ChecksumIEEE([]byte(body + "\x00\x00\x00\x00")), "of all": crc32.ChecksumIEEE([]byte(right)),
		} {
			if other == sum {
				t.Fatalf("%s: it is the same", name)
			}
			refused(t, body+string(binary.LittleEndian.AppendUint32(nil, other)), api.ErrSum)
		}
		refused(t, body+string(binary.BigEndian.AppendUint32(nil, sum)), api.ErrSum)
	}
}

func TestReadByTheWords(t *testing.T) {
	d := dice(2)
	found := map[api.Errno]int{}
	for range 20000 {
		m := d.manifest(1 + d.below(4))
		if d.below(3) == 0 {
			i := d.below(len(m.Segs))
			m.Segs[i] = manif.Entry{Gen: m.Gen + int64(d.below(3)) - 1, First: m.Segs[d.below(len(m.Segs))].First}
		}
		count := len(m.Segs)
		if d.below(6) == 0 {
			count += d.below(3) - 1
		}
		body := said("man1", m, count)
		switch d.below(8) {
		case 0:
			body = body[:d.below(len(body)+1)]
		case 1:
			body += d.text(d.below(20))
		case 2:
			b := []byte(body)
			b[d.below(len(b))] ^= 1 << d.below(8)
			body = string(b)
		}
		s := summed(body)
		if d.below(6) == 0 {
			s = s[:d.below(len(s)+1)]
		}
		found[reads(t, s)]++
	}
	for _, e := range []api.Errno{api.OK, api.ErrForm, api.ErrSum, api.ErrShort} {
		if found[e] < 100 {
			t.Errorf("error %d: %d times", e, found[e])
		}
	}
}

// P13.2: Names, With, Find.

func TestNamesByTheWords(t *testing.T) {
	for _, m := range some() {
		var want []string
		for _, s := range m.Segs {
			want = append(want, fmt.Sprintf("s%08d-%010d", s.Gen, s.First))
		}
		if l := manif.Names(m); !slices.Equal(l, want) {
			t.Errorf("Names(%v): %q, not %q", m, l, want)
		}
	}
}

func TestNamesOfWhatMayNotBe(t *testing.T) {
	for _, m := range noSome() {
		if l := manif.Names(m); len(l) != 0 {
			t.Errorf("Names(%v): %q", m, l)
		}
	}
}

func TestWithOneMore(t *testing.T) {
	d := dice(3)
	for _, m := range some() {
		last := m.Segs[len(m.Segs)-1].First
		entries := []manif.Entry{{Gen: 0, First: last + 1}, {Gen: m.Gen, First: maxSeq}, {Gen: d.upTo(m.Gen), First: last + 1 + d.upTo(maxSeq)}}
		for _, x := range entries {
			if len(m.Segs) == maxFiles || x.First > maxSeq || x.First <= last {
				continue
			}
			want := manif.Manifest{Gen: m.Gen, Segs: append(slices.Clone(m.Segs), x)}
			if got, e := manif.With(m, x); !equal(got, want) || e != api.OK || !manif.May(got) {
				t.Errorf("With(%v, %v): %v, %d", m, x, got, e)
			}
		}
	}
}

func TestWithUpToMaxFiles(t *testing.T) {
	m := of(3, 0, 0)
	for i := int64(1); i < maxFiles; i++ {
		var e api.Errno
		m, e = manif.With(m, manif.Entry{Gen: i % 4, First: 7 * i})
		if e != api.OK || len(m.Segs) != int(i)+1 {
			t.Fatalf("With, %d: %v, %d", i, m, e)
		}
	}
	if !equal(m, long(maxFiles, 3, 7)) {
		t.Errorf("With: %v", m)
	}
	noWith(t, m, manif.Entry{Gen: 0, First: 7 * maxFiles})
	noWith(t, m, manif.Entry{Gen: 3, First: maxSeq})
}

// noWith says what is wrong with how With refuses.
func noWith(t *testing.T, m manif.Manifest, x manif.Entry) {
	t.Helper()
	if got, e := manif.With(m, x); !none(got) || e != api.ErrForm {
		t.Errorf("With(%v, %v): %v, %d", m, x, got, e)
	}
}

// The errors' table, row of With.

func TestWithWhatMayNotBe(t *testing.T) {
	for _, m := range some() {
		last := m.Segs[len(m.Segs)-1].First
		for _, first := range []int64{last, last - 1, 0, -1, maxSeq + 1, math.MinInt64, math.MaxInt64} {
			if first <= last || first > maxSeq {
				noWith(t, m, manif.Entry{Gen: 0, First: first})
				noWith(t, m, manif.Entry{Gen: m.Gen, First: first})
			}
		}
		for _, gen := range []int64{m.Gen + 1, -1, maxGen + 1, math.MinInt64, math.MaxInt64} {
			noWith(t, m, manif.Entry{Gen: gen, First: last + 1})
			noWith(t, m, manif.Entry{Gen: gen, First: last})
		}
	}
	for _, m := range noSome() {
		if len(m.Segs) == 0 {
			continue
		}
		for _, first := range []int64{m.Segs[len(m.Segs)-1].First + 1, 0, 100000, maxSeq} {
			noWith(t, m, manif.Entry{Gen: 0, First: first})
		}
	}
}

func TestWithTheFirstOne(t *testing.T) {
	for _, gen := range []int64{0, 5, maxGen} {
		want := of(gen, gen, 7)
		for _, m := range []manif.Manifest{{Gen: gen}, {Gen: gen, Segs: []manif.Entry{}}} {
			if got, e := manif.With(m, manif.Entry{Gen: gen, First: 7}); !equal(got, want) || e != api.OK {
				t.Errorf("With(%v): %v, %d", m, got, e)
			}
			noWith(t, m, manif.Entry{Gen: gen + 1, First: 7})
			noWith(t, m, manif.Entry{Gen: gen, First: -1})
			noWith(t, m, manif.Entry{Gen: gen, First: maxSeq + 1})
		}
	}
	noWith(t, manif.Manifest{Gen: -1}, manif.Entry{Gen: -1, First: 7})
	noWith(t, manif.Manifest{Gen: maxGen + 1}, manif.Entry{Gen: 0, First: 7})
}

// slowFind finds by the words of the document.
func slowFind(m manif.Manifest, seq int64) int {
	place := -1
	for i, s := range m.Segs {
		if s.First <= seq {
			place = i
		}
	}
	return place
}

// asked are numbers by which segments are looked for: all edges of a manifest's,
// and those that are beyond all.
func asked(m manif.Manifest) []int64 {
	l := []int64{math.MinInt64, -maxSeq, -1, 0, 1, maxSeq - 1, maxSeq, maxSeq + 1, math.MaxInt64}
	for i, s := range m.Segs {
		l = append(l, s.First-1, s.First, s.First+1)
		if i > 0 {
			l = append(l, m.Segs[i-1].First+(s.First-m.Segs[i-1].First)/2)
		}
	}
	return l
}

func TestFindByTheWords(t *testing.T) {
	for _, m := range slices.Concat(some(), noSome()) {
		if len(m.Segs) > 1000 {
			continue
		}
		for _, seq := range asked(m) {
			if got := manif.Find(m, seq); got != slowFind(m, seq) {
				t.Errorf("Find(%v, %d): %d, not %d", m, seq, got, slowFind(m, seq))
			}
		}
	}
}

func TestFindOfNoSegment(t *testing.T) {
	for _, seq := range asked(of(0, 0, 7)) {
		for _, m := range []manif.Manifest{{}, {Gen: 4, Segs: []manif.Entry{}}} {
			if got := manif.Find(m, seq); got != -1 {
				t.Errorf("Find(%v, %d): %d", m, seq, got)
			}
		}
	}
}

// P13.3: Swap, Load.

// holding is a disk with these files.
func holding(t *testing.T, capacity int, l ...api.File) *disk.Disk {
	t.Helper()
	slices.SortFunc(l, func(a, b api.File) int { return strings.Compare(a.Name, b.Name) })
	d, e := disk.Load(capacity, l)
	if e != api.OK {
		t.Fatalf("Load(%d, %.99q): %d", capacity, l, e)
	}
	return d
}

// filled are n files, called alike, with a byte each.
func filled(n int) []api.File {
	var l []api.File
	for i := range n {
		l = append(l, api.File{Name: fmt.Sprintf("f%02d", i), Data: "x"})
	}
	return l
}

// with is a list of files, and one more.
func with(l []api.File, more ...api.File) []api.File { return slices.Concat(l, more) }

// data is a file that stands for good.
func data(name, bytes string) api.File { return api.File{Name: name, Data: bytes} }

// pending is a file that has something more behind what stands for good.
func pending(name, bytes, more string) api.File {
	return api.File{Name: name, Data: bytes, Pending: more}
}

// called tells whether a file is called so.
func called(name string) func(api.File) bool {
	return func(f api.File) bool { return f.Name == name }
}

// without is a list of files, but the one that is called so.
func without(l []api.File, name string) []api.File {
	return slices.DeleteFunc(slices.Clone(l), called(name))
}

// has tells whether a file is called so.
func has(l []api.File, name string) bool { return slices.ContainsFunc(l, called(name)) }

// same says that manifests are not the same.
func same(t *testing.T, a, b manif.Manifest) {
	t.Helper()
	if !equal(a, b) {
		t.Errorf("%v, not %v", a, b)
	}
}

// swaps swaps what must be OK.
func swaps(t *testing.T, d *disk.Disk, m manif.Manifest) {
	t.Helper()
	if e := manif.Swap(d, m); e != api.OK {
		t.Fatalf("Swap(%v): %d", m, e)
	}
}

// loads tells the manifest that must be there.
func loads(t *testing.T, d *disk.Disk) manif.Manifest {
	t.Helper()
	m, e := manif.Load(d)
	if e != api.OK {
		t.Fatalf("Load: %d", e)
	}
	return m
}

func TestSwapAndLoad(t *testing.T) {
	d, _ := disk.New(5000)
	for _, m := range some() {
		swaps(t, d, m)
		same(t, loads(t, d), m)
		if l := d.Files(); !slices.Equal(l, []api.File{data("MANIFEST", spelt(m))}) {
			t.Errorf("Swap(%v): %.99q", m, l)
		}
		if e := d.Crash(nil); e != api.OK {
			t.Fatal(e)
		}
		same(t, loads(t, d), m)
	}
}

func TestLoadReadsWhatIsNotSynced(t *testing.T) {
	s := spelt(of(2, 1, 0, 2, 7))
	for n := range len(s) + 1 {
		d := holding(t, 100, pending("MANIFEST", s[:n], s[n:]))
		same(t, loads(t, d), of(2, 1, 0, 2, 7))
		if l := d.Files(); !slices.Equal(l, []api.File{pending("MANIFEST", s[:n], s[n:])}) {
			t.Errorf("Load: %q", l)
		}
	}
}

func TestLoadLooksAtTheManifestAlone(t *testing.T) {
	a, b := of(0, 0, 0), of(5, 3, 8)
	d := holding(t, 5000, data("MANIFEST", spelt(a)), data("MANIFEST.new", spelt(b)), data("MANIFES", spelt(b)), data("manifest", spelt(b)))
	same(t, loads(t, d), a)
	before := d.Files()
	if _, e := manif.Load(d); e != api.OK || !slices.Equal(d.Files(), before) {
		t.Errorf("Load: %d, %q", e, d.Files())
	}
}

// The errors' table, rows of Swap and Load.

// noLoad says what is wrong with how Load refuses.
func noLoad(t *testing.T, d *disk.Disk, want api.Errno) {
	t.Helper()
	if m, e := manif.Load(d); !none(m) || e != want {
		t.Errorf("Load: %v, %d, not %d", m, e, want)
	}
}

// noSwap says what is wrong with how Swap refuses.
func noSwap(t *testing.T, d *disk.Disk, m manif.Manifest, want api.Errno) {
	t.Helper()
	if e := manif.Swap(d, m); e != want {
		t.Errorf("Swap(%v): %d, not %d", m, e, want)
	}
}

func TestNoDisk(t *testing.T) {
	noLoad(t, nil, api.ErrNil)
	noSwap(t, nil, of(0, 0, 0), api.ErrNil)
	noSwap(t, nil, manif.Manifest{}, api.ErrForm)
	noSwap(t, nil, of(0, 0, 7, 0, 7), api.ErrForm)
}

func TestADiskThatNobodyMade(t *testing.T) {
	var d disk.Disk
	noLoad(t, &d, api.ErrNone)
	noSwap(t, &d, of(0, 0, 0), api.ErrFull)
	if len(d.Files()) != 0 {
		t.Errorf("%q", d.Files())
	}
}

func TestNoManifest(t *testing.T) {
	d, _ := disk.New(1000)
	noLoad(t, d, api.ErrNone)
	for _, l := range [][]api.File{{data("MANIFEST.new", spelt(of(0, 0, 0)))}, filled(5), {data("manifest", spelt(of(0, 0, 0)))}} {
		noLoad(t, holding(t, 1000, l...), api.ErrNone)
	}
	for s, want := range map[string]api.Errno{"": api.ErrShort, "man": api.ErrShort, "man1": api.ErrSum, summed(""): api.ErrForm, summed("man1"): api.ErrForm} {
		noLoad(t, holding(t, 1000, data("MANIFEST", s), data("MANIFEST.new", spelt(of(0, 0, 0)))), want)
	}
}

func TestSwapOfWhatMayNotBe(t *testing.T) {
	for _, m := range noSome() {
		l := []api.File{data("MANIFEST", "old"), pending("MANIFEST.new", "ab", "cd"), pending("x", "y", "z")}
		d := holding(t, 5000, l...)
		noSwap(t, d, m, api.ErrForm)
		if !slices.Equal(d.Files(), l) {
			t.Errorf("Swap(%v): %q", m, d.Files())
		}
	}
	d := holding(t, 0)
	noSwap(t, d, of(0, 0, 0, 0, 0), api.ErrForm)
	d.Cut(0)
	noSwap(t, d, of(0, 0, 0, 0, 0), api.ErrForm)
	if !d.Up() {
		t.Error("the power is gone by what was not done")
	}
	d.Create("x")
	noSwap(t, d, of(0, 0, 0, 0, 0), api.ErrForm)
}

func TestADiskThatIsGone(t *testing.T) {
	old, fresh := spelt(of(0, 0, 0)), spelt(of(5, 3, 8))
	for _, l := range [][]api.File{
		nil, {data("MANIFEST", old)}, {data("MANIFEST", old), data("MANIFEST.new", "x")}, {data("MANIFEST", "x"), pending("MANIFEST.new", "x", "yz")},
		filled(maxFiles), with(filled(maxFiles-1), data("MANIFEST.new", fresh)),
	} {
		for _, capacity := range []int{100, 5000} {
			d := holding(t, capacity, l...)
			before := d.Files()
			d.Cut(0)
			d.Create("gone")
			d.Delete("f00")
			d.Delete("MANIFEST")
			if d.Up() {
				t.Fatal("the power is there")
			}
			noLoad(t, d, api.ErrCut)
			noSwap(t, d, of(1, 0, 5), api.ErrCut)
			noSwap(t, d, manif.Manifest{}, api.ErrForm)
			if d.Up() || !slices.Equal(d.Files(), before) {
				t.Errorf("Swap: %.99q, not %.99q", d.Files(), before)
			}
		}
	}
}

// plain is a disk's files by names, and how many deeds are done still (below 0:
// all), for a swap by the words of the document.
type plain struct {
	files          map[string]api.File
	capacity, left int
	gone           bool
}

// plainly is a disk of that kind.
func plainly(capacity, left int, l []api.File) *plain {
	p := &plain{files: map[string]api.File{}, capacity: capacity, left: left}
	for _, f := range l {
		p.files[f.Name] = f
	}
	return p
}

// done tells whether what comes is done: else the power goes.
func (p *plain) done() bool {
	if p.left == 0 {
		p.gone = true
		return false
	}
	p.left--
	return true
}

// used is how many bytes all files have.
func (p *plain) used() int {
	n := 0
	for _, f := range p.files {
		n += len(f.Data) + len(f.Pending)
	}
	return n
}

// list is the files by rising names.
func (p *plain) list() []api.File {
	var l []api.File
	for _, name := range slices.Sorted(maps.Keys(p.files)) {
		l = append(l, p.files[name])
	}
	return l
}

// swap swaps by the words of the document.
func (p *plain) swap(m manif.Manifest) api.Errno {
	if !slowMay(m) {
		return api.ErrForm
	}
	if p.gone {
		return api.ErrCut
	}
	s := spelt(m)
	if _, is := p.files["MANIFEST.new"]; is {
		if !p.done() {
			return api.ErrCut
		}
		delete(p.files, "MANIFEST.new")
	}
	if len(p.files) == maxFiles {
		return api.ErrFull
	}
	if !p.done() {
		return api.ErrCut
	}
	p.files["MANIFEST.new"] = data("MANIFEST.new", "")
	if p.used()+len(s) > p.capacity {
		if !p.done() {
			return api.ErrCut
		}
		delete(p.files, "MANIFEST.new")
		return api.ErrFull
	}
	p.files["MANIFEST.new"] = pending("MANIFEST.new", "", s)
	if !p.done() || !p.done() {
		return api.ErrCut
	}
	return p.rename(s)
}

// rename is the end of a swap: the new manifest is synced, and called so, if
// the power is there.
func (p *plain) rename(s string) api.Errno {
	p.files["MANIFEST.new"] = data("MANIFEST.new", s)
	if !p.done() {
		return api.ErrCut
	}
	delete(p.files, "MANIFEST.new")
	p.files["MANIFEST"] = data("MANIFEST", s)
	return api.OK
}

// crash makes the power come back.
func (p *plain) crash(keep []int) {
	for _, name := range slices.Sorted(maps.Keys(p.files)) {
		f := p.files[name]
		if f.Pending == "" {
			continue
		}
		stay := uint64(0)
		if len(keep) > 0 {
			stay = uint64(keep[0]) % uint64(len(f.Pending)+1)
			keep = keep[1:]
		}
		p.files[name] = data(name, f.Data+f.Pending[:stay])
	}
	p.gone, p.left = false, -1
}

// keeps are ways in which what is pending is kept.
func keeps() [][]int {
	l := [][]int{nil, {}, {math.MaxInt}, {math.MinInt}, {-1}, {1000, 1000, 1000}, {0, 1, 2, 3}, {3, 2, 1, 0}, {7, 0, 99, 50}, {1, 50, 50, 50, 50}}
	for _, n := range []int{1, 2, 3, 17, 49, 50, 51} {
		l = append(l, []int{n}, []int{1, n})
	}
	return l
}

// starts are what may be on a disk when a manifest of 50 bytes is swapped on
// it.
func starts() map[string][]api.File {
	old := spelt(of(1, 0, 0, 1, 3, 0, 9))
	return map[string][]api.File{
		"nothing":               nil,
		"an old one":            {data("MANIFEST", old)},
		"nothing, and others":   {data("s00000000-0000000000", "segment"), pending("x", "ab", "cdefg")},
		"an old one and others": {data("MANIFEST", old), pending("A", "", "pending"), pending("x", "ab", "cdefg"), data("y", "")},
		"left over":             {data("MANIFEST", old), data("MANIFEST.new", "left over")},
		"left over, pending":    {data("MANIFEST", old), pending("MANIFEST.new", "left", spelt(of(9, 9, 9))), pending("x", "1", "23")},
		"left over alone":       {pending("MANIFEST.new", "", "left")},
		"left over, the same":   {data("MANIFEST.new", spelt(of(2, 1, 0, 2, 7)))},
		"one that is none":      {pending("MANIFEST", "what", "is not one"), data("z", "z")},
		"one more file":         with(filled(maxFiles-2), data("MANIFEST", old)),
		"one more file, new":    filled(maxFiles - 1),
		"all files":             with(filled(maxFiles-1), data("MANIFEST", old)),
		"all files, none":       filled(maxFiles),
		"all files, left over":  with(filled(maxFiles-2), data("MANIFEST", old), pending("MANIFEST.new", "12", "3")),
		"all, left over alone":  with(filled(maxFiles-1), data("MANIFEST.new", "123")),
	}
}

// used is how many bytes files have.
func used(l []api.File) int {
	n := 0
	for _, f := range l {
		n += len(f.Data) + len(f.Pending)
	}
	return n
}

// capacities are how many bytes a disk may have of these files: just so many,
// or just enough for a manifest of 50 bytes, or nearly, or more than that.
func capacities(l []api.File) []int {
	now, beside := used(l), used(without(l, "MANIFEST.new"))
	list := []int{now, now + 1, beside + 49, beside + 50, beside + 51, now + 49, now + 50, 10000}
	return slices.DeleteFunc(list, func(n int) bool { return n < now })
}

func TestSwapByTheWords(t *testing.T) {
	m := of(2, 1, 0, 2, 7)
	for name, l := range starts() {
		for _, capacity := range capacities(l) {
			for cut := -1; cut < 8; cut++ {
				for _, keep := range keeps() {
					swapsAsPlainly(t, name, capacity, cut, l, m, keep)
				}
			}
		}
	}
}

// swapsAsPlainly says what is wrong with a swap, and with a Crash behind it, and
// with a swap behind that.
func swapsAsPlainly(t *testing.T, name string, capacity, cut int, l []api.File, m manif.Manifest, keep []int) {
	t.Helper()
	d, p := holding(t, capacity, slices.Clone(l)...), plainly(capacity, cut, l)
	if cut >= 0 {
		d.Cut(cut)
	}
	e, want := manif.Swap(d, m), p.swap(m)
	if e != want || !slices.Equal(d.Files(), p.list()) || d.Up() == p.gone {
		t.Fatalf("%s, %d bytes, Cut(%d): Swap: %d, not %d; %.200q, not %.200q", name, capacity, cut, e, want, d.Files(), p.list())
	}
	p.crash(keep)
	if e := d.Crash(keep); e != api.OK || !slices.Equal(d.Files(), p.list()) {
		t.Fatalf("%s, %d bytes, Cut(%d), Crash(%d): %d, %.200q, not %.200q", name, capacity, cut, keep, e, d.Files(), p.list())
	}
	e, want = manif.Swap(d, m), p.swap(m)
	if e != want || !slices.Equal(d.Files(), p.list()) {
		t.Fatalf("%s, %d bytes, Cut(%d), Crash(%d), Swap: %d, not %d; %.200q, not %.200q", name, capacity, cut, keep, e, want, d.Files(), p.list())
	}
}

func TestSwapOfWhateverByTheWords(t *testing.T) {
	d := dice(4)
	for range 3000 {
		var l []api.File
		for _, f := range filled(d.below(4) + d.below(2)*(maxFiles-5)) {
			if d.below(4) == 0 {
				f.Pending = d.text(d.below(9))
			}
			l = append(l, f)
		}
		if d.below(3) > 0 {
			l = append(l, data("MANIFEST", spelt(d.manifest(1+d.below(9)))))
		}
		if d.below(3) > 0 {
			s := spelt(d.manifest(1 + d.below(9)))
			at := d.below(len(s) + 1)
			l = append(l, pending("MANIFEST.new", s[:at], s[at:]))
		}
		keep := []int{d.below(99), d.below(99), d.below(2000)}[:d.below(4)]
		swapsAsPlainly(t, "any", used(l)+d.below(1000), d.below(9)-2, l, d.manifest(1+d.below(maxFiles)), keep)
	}
}

func TestSwapsBehindOneAnother(t *testing.T) {
	dd := dice(5)
	d, p := holding(t, 4000, data("x", "y")), plainly(4000, -1, []api.File{data("x", "y")})
	done := 0
	for i := range 2000 {
		m := dd.manifest(1 + dd.below(maxFiles))
		if cut := dd.below(12); cut < 6 {
			p.left = cut
			d.Cut(cut)
		}
		e, want := manif.Swap(d, m), p.swap(m)
		if e != want || !slices.Equal(d.Files(), p.list()) {
			t.Fatalf("%d: Swap(%v): %d, not %d", i, m, e, want)
		}
		if e == api.OK {
			done++
		}
		if p.gone || dd.below(4) == 0 {
			keep := []int{dd.below(1100)}
			d.Crash(keep)
			p.crash(keep)
		}
	}
	if done < 500 || done > 1900 {
		t.Errorf("%d were done", done)
	}
}

// P13.4: back.

func TestReadOfMake(t *testing.T) {
	for _, m := range some() {
		s := makes(t, m)
		if len(s) != manif.Size(len(m.Segs)) || len(s) == 0 {
			t.Errorf("Make(%v): %d bytes, not %d", m, len(s), manif.Size(len(m.Segs)))
		}
		if back, e := manif.Read(s); e != api.OK || !manif.Same(back, m) || !equal(back, m) {
			t.Errorf("Read(Make(%v)): %v, %d", m, back, e)
		}
	}
}

func TestMakeOfRead(t *testing.T) {
	d := dice(6)
	for range 5000 {
		s := spelt(d.manifest(1 + d.below(maxFiles)))
		m, e := manif.Read(s)
		if e != api.OK || len(s) != manif.Size(len(m.Segs)) || makes(t, m) != s {
			t.Errorf("Make(Read(% X)): %v, %d", s, m, e)
		}
	}
}

func TestWhatIsReadIsNoOthers(t *testing.T) {
	d := dice(7)
	for range 20000 {
		b := []byte(said("man1", d.manifest(1+d.below(3)), 1+d.below(3)))
		for range d.below(3) {
			b[d.below(len(b))] = byte(d.below(256))
		}
		s := summed(string(b))
		if m, e := manif.Read(s); e == api.OK && makes(t, m) != s {
			t.Errorf("Make(Read(% X)): % X", s, makes(t, m))
		}
	}
}

// P13.5: old or new.

func TestOldOrNew(t *testing.T) {
	m := of(2, 1, 0, 2, 7)
	for name, l := range starts() {
		for cut := range 8 {
			for _, keep := range keeps() {
				d := holding(t, 10000, slices.Clone(l)...)
				d.Crash(nil)
				before := d.Files()
				d.Cut(cut)
				e := manif.Swap(d, m)
				d.Crash(keep)
				oldOrNew(t, fmt.Sprintf("%s, Cut(%d), Crash(%d)", name, cut, keep), before, d, m, e)
			}
		}
	}
}

// oldOrNew says what is wrong with a disk, ahead of whose swap all stood for
// good: so all other files must be as they were.
func oldOrNew(t *testing.T, name string, before []api.File, d *disk.Disk, m manif.Manifest, e api.Errno) {
	t.Helper()
	after := d.Files()
	others := func(l []api.File) []api.File { return without(without(l, "MANIFEST.new"), "MANIFEST") }
	if !slices.Equal(others(before), others(after)) {
		t.Errorf("%s: %.99q, not %.99q", name, after, before)
	}
	is := func(l []api.File) []api.File {
		return slices.DeleteFunc(slices.Clone(l), func(f api.File) bool { return f.Name != "MANIFEST" })
	}
	fresh := []api.File{data("MANIFEST", spelt(m))}
	switch {
	case e == api.OK && (!slices.Equal(is(after), fresh) || has(after, "MANIFEST.new")):
		t.Errorf("%s: it is OK, but %.99q", name, after)
	case e != api.OK && !slices.Equal(is(after), is(before)):
		t.Errorf("%s: error %d, but %.99q", name, e, after)
	case e != api.OK && e != api.ErrCut && e != api.ErrFull:
		t.Errorf("%s: error %d", name, e)
	}
}

func TestWhatIsPendingOfOthersStays(t *testing.T) {
	l := []api.File{pending("A", "ab", "cd"), pending("MANIFEST", "what", "ever"), pending("z", "", "zzz")}
	for cut := range 5 {
		d := holding(t, 10000, slices.Clone(l)...)
		d.Cut(cut)
		e := manif.Swap(d, of(0, 0, 0))
		for _, f := range d.Files() {
			if f.Name != "MANIFEST" && f.Name != "MANIFEST.new" && !slices.Contains(l, f) {
				t.Errorf("Cut(%d): %q", cut, f)
			}
			if f.Name == "MANIFEST" && e != api.OK && f != l[1] {
				t.Errorf("Cut(%d): %q", cut, f)
			}
		}
		if (e == api.OK) != (cut >= 4) {
			t.Errorf("Cut(%d): %d", cut, e)
		}
	}
}

func TestWithoutACut(t *testing.T) {
	for name, l := range starts() {
		if len(without(l, "MANIFEST.new")) == maxFiles {
			continue
		}
		for _, m := range some() {
			d := holding(t, 10000, slices.Clone(l)...)
			swaps(t, d, m)
			want := with(without(without(l, "MANIFEST.new"), "MANIFEST"), data("MANIFEST", spelt(m)))
			if after := holding(t, 10000, want...).Files(); !slices.Equal(d.Files(), after) {
				t.Errorf("%s: %.99q, not %.99q", name, d.Files(), after)
			}
			same(t, loads(t, d), m)
		}
	}
}

// P13.6: room.

func TestRoom(t *testing.T) {
	for _, m := range []manif.Manifest{of(0, 0, 0), of(2, 1, 0, 2, 7), long(maxFiles, 3, 7)} {
		size := manif.Size(len(m.Segs))
		for name, l := range starts() {
			beside := without(l, "MANIFEST.new")
			for more := size - 3; more <= size+3; more++ {
				capacity := used(beside) + more
				if capacity < used(l) {
					continue
				}
				d := holding(t, capacity, slices.Clone(l)...)
				before := holding(t, capacity, beside...).Files()
				e := manif.Swap(d, m)
				want := api.ErrFull
				if more >= size && len(beside) < maxFiles {
					want = api.OK
				}
				if e != want || !d.Up() {
					t.Errorf("%s, room %d of %d: %d, not %d", name, more, size, e, want)
				}
				if e == api.ErrFull && !slices.Equal(d.Files(), before) {
					t.Errorf("%s, room %d of %d: %.99q, not %.99q", name, more, size, d.Files(), before)
				}
			}
		}
	}
}

func TestThePowerGoesWhereThereIsNoRoom(t *testing.T) {
	m := of(0, 0, 0)
	for cut, want := range []api.Errno{api.ErrCut, api.ErrCut, api.ErrCut, api.ErrFull, api.ErrFull} {
		d := holding(t, 43, data("MANIFEST", "ten bytes!"), data("MANIFEST.new", "old"))
		d.Cut(cut)
		e := manif.Swap(d, m)
		if e != want || d.Up() != (want == api.ErrFull) {
			t.Errorf("Cut(%d): %d, not %d", cut, e, want)
		}
		if has(d.Files(), "MANIFEST.new") != (cut == 0 || cut == 2) || d.Files()[0] != data("MANIFEST", "ten bytes!") {
			t.Errorf("Cut(%d): %q", cut, d.Files())
		}
	}
}

func TestThePowerGoesWhereThereAreAllFiles(t *testing.T) {
	m := of(0, 0, 0)
	// No file is created, and so none has to be deleted again.
	for cut := range 3 {
		d := holding(t, 5000, filled(maxFiles)...)
		d.Cut(cut)
		if e := manif.Swap(d, m); e != api.ErrFull || !d.Up() || !slices.Equal(d.Files(), filled(maxFiles)) {
			t.Errorf("Cut(%d): %d, %q", cut, e, d.Files())
		}
	}
}

// P13.7: found.

func TestFoundBeginsAtItAtMost(t *testing.T) {
	for _, m := range some() {
		for _, seq := range asked(m) {
			k := manif.Find(m, seq)
			if k < -1 || k >= len(m.Segs) {
				t.Fatalf("Find(%v, %d): %d", m, seq, k)
			}
			if k >= 0 && m.Segs[k].First > seq || k+1 < len(m.Segs) && m.Segs[k+1].First <= seq {
				t.Errorf("Find(%v, %d): %d", m, seq, k)
			}
		}
	}
}

func TestWithsLastOneIsFound(t *testing.T) {
	for _, m := range some() {
		last := m.Segs[len(m.Segs)-1].First
		first := last + 1 + (maxSeq-last)/3
		if len(m.Segs) == maxFiles || first > maxSeq {
			continue
		}
		more, e := manif.With(m, manif.Entry{Gen: m.Gen, First: first})
		if e != api.OK {
			t.Fatalf("With(%v, %d): %d", m, first, e)
		}
		for _, seq := range append(asked(more), asked(m)...) {
			want := manif.Find(m, seq)
			if seq >= first {
				want = len(m.Segs)
			}
			if got := manif.Find(more, seq); got != want {
				t.Errorf("Find(%v, %d): %d, not %d", more, seq, got, want)
			}
		}
	}
}

func TestNamesAreSegmentsAndUnlike(t *testing.T) {
	for _, m := range some() {
		seen := map[string]int{}
		for i, name := range manif.Names(m) {
			seen[name]++
			gen, first, is := seg.Named(name)
			if !is || gen != m.Segs[i].Gen || first != m.Segs[i].First || !disk.MayName(name) {
				t.Errorf("Names(%v): %q is %d, %d, %v", m, name, gen, first, is)
			}
		}
		if len(seen) != len(m.Segs) {
			t.Errorf("Names(%v): %v", m, seen)
		}
	}
}

// P13.8: a burst.

func TestEachBitTurned(t *testing.T) {
	for _, m := range []manif.Manifest{of(0, 0, 0), of(2, 1, 0, 2, 7), of(maxGen, maxGen, maxSeq), long(maxFiles, 3, 7)} {
		s := makes(t, m)
		for bit := range 8 * len(s) {
			b := []byte(s)
			b[bit/8] ^= 1 << (bit % 8)
			refused(t, string(b), api.ErrSum)
		}
	}
}

func TestBursts(t *testing.T) {
	d := dice(8)
	for _, m := range append(some(), of(0, 0, 0)) {
		s := makes(t, m)
		for at := 0; at <= len(s)-4; at += 1 + len(s)/60 {
			for _, burst := range []uint32{0xFFFFFFFF, 0x80000001, 0x00FFFF00, 1 << 31, 3, uint32(d.next()) | 1, uint32(d.next()) | 1<<31} {
				b := []byte(s)
				binary.LittleEndian.PutUint32(b[at:], binary.LittleEndian.Uint32(b[at:])^burst)
				if got, e := manif.Read(string(b)); e != api.ErrSum || !none(got) {
					t.Errorf("Read of %v with %08X at %d: %v, %d", m, burst, at, got, e)
				}
			}
		}
	}
}

func TestBurstsThatBeginWithinAByte(t *testing.T) {
	d := dice(9)
	for _, m := range []manif.Manifest{of(0, 0, 0), of(2, 1, 0, 2, 7), long(5, 9, 1000)} {
		s := makes(t, m)
		for bit := range 8*len(s) - 31 {
			for _, burst := range []uint64{1<<32 - 1, 1<<31 | 1, d.next()>>32 | 1} {
				b := []byte(s)
				for i := range 32 {
					// The bits stand in the row in which a checksum takes them.
					b[(bit+i)/8] ^= byte(burst>>i&1) << ((bit + i) % 8)
				}
				if got, e := manif.Read(string(b)); e != api.ErrSum || !none(got) {
					t.Errorf("Read of %v with %08X at bit %d: %v, %d", m, burst, bit, got, e)
				}
			}
		}
	}
}

// R1.

func TestWhatIsHandedInStays(t *testing.T) {
	for _, m := range slices.Concat(some(), noSome()) {
		if len(m.Segs) > 1000 {
			continue
		}
		// Behind its last segment a list has room, which is nobody's to write to.
		room := append(slices.Clone(m.Segs), manif.Entry{Gen: 77, First: 77}, manif.Entry{Gen: 78, First: 78})
		handed := manif.Manifest{Gen: m.Gen, Segs: room[:len(m.Segs)]}
		last := int64(0)
		if len(m.Segs) > 0 {
			last = m.Segs[len(m.Segs)-1].First + 1
		}
		manif.May(handed)
		manif.Same(handed, handed)
		manif.Make(handed)
		manif.Names(handed)
		manif.With(handed, manif.Entry{Gen: 0, First: last})
		manif.Find(handed, 5)
		manif.Swap(holding(t, 5000), handed)
		manif.Swap(holding(t, 10), handed)
		if !equal(handed, m) || room[len(m.Segs)] != (manif.Entry{Gen: 77, First: 77}) || room[len(m.Segs)+1] != (manif.Entry{Gen: 78, First: 78}) {
			t.Errorf("%v: %v", m, room)
		}
	}
}

func TestWhatIsToldIsNotShared(t *testing.T) {
	m := of(3, 0, 0, 1, 5, 2, 9)
	more, _ := manif.With(m, manif.Entry{Gen: 3, First: 12})
	kept := own(more)
	m.Segs[0] = manif.Entry{Gen: 1, First: 1}
	same(t, more, kept)
	more.Segs[1] = manif.Entry{Gen: 1, First: 1}
	same(t, m, of(3, 1, 1, 1, 5, 2, 9))

	other, _ := manif.With(m, manif.Entry{Gen: 2, First: 20})
	other.Segs[3] = manif.Entry{}
	more.Segs = append(more.Segs[:2], manif.Entry{Gen: 0, First: 6})
	same(t, m, of(3, 1, 1, 1, 5, 2, 9))

	s := makes(t, m)
	a, _ := manif.Read(s)
	b, _ := manif.Read(s)
	a.Segs[0], a.Segs[2] = manif.Entry{}, manif.Entry{}
	same(t, b, m)

	names := manif.Names(m)
	names[0] = "x"
	if l := manif.Names(m); l[0] != "s00000001-0000000001" {
		t.Errorf("Names: %q", l)
	}
}

func TestADiskKeepsNothingOfAManifest(t *testing.T) {
	d, _ := disk.New(1000)
	m := of(3, 0, 0, 1, 5)
	swaps(t, d, m)
	m.Segs[0] = manif.Entry{Gen: 2, First: 4}
	a := loads(t, d)
	same(t, a, of(3, 0, 0, 1, 5))
	a.Segs[1] = manif.Entry{}
	same(t, loads(t, d), of(3, 0, 0, 1, 5))
}

func TestTheSameIsToldTwice(t *testing.T) {
	for _, m := range some() {
		if makes(t, m) != makes(t, own(m)) || !slices.Equal(manif.Names(m), manif.Names(own(m))) {
			t.Errorf("%v", m)
		}
		d, _ := disk.New(5000)
		swaps(t, d, m)
		before := d.Files()
		swaps(t, d, m)
		if !slices.Equal(d.Files(), before) {
			t.Errorf("Swap(%v), twice: %.99q", m, d.Files())
		}
	}
}

// The chapter's examples.

func TestTheExamples(t *testing.T) {
	m := of(2, 1, 0, 2, 7)
	s := makes(t, m)
	want := "man1" + "\x00\x00\x00\x00\x00\x00\x00\x02" + "\x00\x02" + strings.Repeat("\x00", 7) + "\x01" + strings.Repeat("\x00", 8) + strings.Repeat("\x00", 7) + "\x02" + strings.Repeat("\x00", 7) + "\x07"
	if len(s) != 50 || s[:46] != want {
		t.Errorf("Make: % X", s)
	}
	for _, bad := range []manif.Manifest{of(0, 0, 7, 0, 7), of(2, 3, 0)} {
		if s, e := manif.Make(bad); s != "" || e != api.ErrForm {
			t.Errorf("Make(%v): % X, %d", bad, s, e)
		}
	}
	if a, b := manif.Find(m, 6), manif.Find(m, 7); a != 0 || b != 1 {
		t.Errorf("Find: %d, %d", a, b)
	}
	if l := manif.Names(m); !slices.Equal(l, []string{"s00000001-0000000000", "s00000002-0000000007"}) {
		t.Errorf("Names: %q", l)
	}
	for cut, want := range map[int]manif.Manifest{3: of(0, 0, 0), 4: m} {
		d, _ := disk.New(200)
		swaps(t, d, of(0, 0, 0))
		d.Cut(cut)
		if e := manif.Swap(d, m); (e == api.OK) != (cut == 4) || e != api.OK && e != api.ErrCut {
			t.Errorf("Cut(%d): %d", cut, e)
		}
		d.Crash([]int{9})
		same(t, loads(t, d), want)
	}
}
