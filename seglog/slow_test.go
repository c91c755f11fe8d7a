package seglog_test

import (
	"encoding/binary"
	"fmt"
	"hash/crc32"
	"maps"
	"slices"
	"strings"

	"souk/api"
	"souk/manif"
)

// Here stands a second log, on plain lists of files, written by the document's
// words. It keeps all payloads, and calls no layer.

// The limits, by the words of the document.
const (
	maxSeq     = 1048576
	maxGen     = 99999999
	maxFiles   = 64
	maxPayload = 4096
	maxBytes   = 1048576
)

// dice tells numbers that look like any, the same ones in each run.
type dice uint64

func (d *dice) next() uint64 {
	*d ^= *d << 13
	*d ^= *d >> 7
	*d ^= *d << 17
	return uint64(*d) * 0x2545F4914F6CDD1D
}

func (d *dice) below(n int) int { return int(d.next() >> 1 % uint64(n)) }

func (d *dice) text(n int) string {
	b := make([]byte, n)
	for i := range b {
		b[i] = byte(d.next() >> 24)
	}
	return string(b)
}

// summed is a text with its checksum behind it, the lowest byte first.
func summed(s string) string {
	return s + string(binary.LittleEndian.AppendUint32(nil, crc32.ChecksumIEEE([]byte(s))))
}

// header is a segment's header.
func header(first int64) string {
	return summed("seg1" + string(binary.BigEndian.AppendUint64(nil, uint64(first))))
}

// framed is a frame's bytes.
func framed(seq int64, payload string) string {
	b := binary.BigEndian.AppendUint32(nil, uint32(len(payload)))
	b = binary.BigEndian.AppendUint64(b, uint64(seq))
	sum := crc32.ChecksumIEEE([]byte(string(b) + payload))
	return string(binary.LittleEndian.AppendUint32(b, sum)) + payload
}

// segment is a segment's bytes.
func segment(first int64, payloads ...string) string {
	s := header(first)
	for i, p := range payloads {
		s += framed(first+int64(i), p)
	}
	return s
}

// manifest is a manifest's bytes, of its generation and each segment's
// generation and first batch.
func manifest(gen int64, l ...int64) string {
	b := binary.BigEndian.AppendUint64([]byte("man1"), uint64(gen))
	b = binary.BigEndian.AppendUint16(b, uint16(len(l)/2))
	for _, n := range l {
		b = binary.BigEndian.AppendUint64(b, uint64(n))
	}
	return summed(string(b))
}

// called is a segment's file's name.
func called(gen, first int64) string { return fmt.Sprintf("s%08d-%010d", gen, first) }

// isCalled tells whether a name is a segment's file's.
func isCalled(name string) bool {
	var gen, first int64
	_, err := fmt.Sscanf(name, "s%d-%d", &gen, &first)
	return err == nil && gen >= 0 && gen <= maxGen && first >= 0 && first <= maxSeq && called(gen, first) == name
}

// plain is a disk's files by names, and how many deeds are done still (below 0:
// all).
type plain struct {
	files          map[string]api.File
	capacity, left int
	gone           bool
}

// plainly is a disk of that kind.
func plainly(capacity int, l []api.File) *plain {
	p := &plain{files: map[string]api.File{}, capacity: capacity, left: -1}
	for _, f := range l {
		p.files[f.Name] = f
	}
	return p
}

// done tells whether what comes is done: else the power goes.
func (p *plain) done() bool {
	if p.gone || p.left == 0 {
		p.gone = true
		return false
	}
	p.left--
	return true
}

// used is how many bytes all files have.
func (p *plain) used() int {
	n := 0
	for _, f := range p.files {
		n += len(f.Data) + len(f.Pending)
	}
	return n
}

// names are the files' names, rising.
func (p *plain) names() []string { return slices.Sorted(maps.Keys(p.files)) }

// list is the files by rising names.
func (p *plain) list() []api.File {
	var l []api.File
	for _, name := range p.names() {
		l = append(l, p.files[name])
	}
	return l
}

// is tells whether there is a file called so.
func (p *plain) is(name string) bool {
	_, is := p.files[name]
	return is
}

// read is all of a file's bytes.
func (p *plain) read(name string) string { return p.files[name].Data + p.files[name].Pending }

// cut tells whether what comes errs, and by what, if the power is all that it
// needs.
func (p *plain) cut() api.Errno {
	if !p.done() {
		return api.ErrCut
	}
	return api.OK
}

func (p *plain) create(name string) api.Errno {
	if len(p.files) == maxFiles {
		return api.ErrFull
	}
	if e := p.cut(); e != api.OK {
		return e
	}
	p.files[name] = data(name, "")
	return api.OK
}

func (p *plain) append(name, s string) api.Errno {
	f := p.files[name]
	if len(f.Data+f.Pending+s) > maxBytes || p.used()+len(s) > p.capacity {
		return api.ErrFull
	}
	e := p.cut()
	p.files[name] = pending(name, f.Data, f.Pending+s)
	return e
}

func (p *plain) sync(name string) api.Errno { return p.trim(name, len(p.read(name))) }

func (p *plain) trim(name string, n int) api.Errno {
	if e := p.cut(); e != api.OK {
		return e
	}
	p.files[name] = data(name, p.read(name)[:n])
	return api.OK
}

func (p *plain) rename(from, to string) api.Errno {
	if e := p.cut(); e != api.OK {
		return e
	}
	f := p.files[from]
	f.Name = to
	delete(p.files, from)
	p.files[to] = f
	return api.OK
}

// remove deletes a file, if it is there.
func (p *plain) remove(name string) api.Errno {
	if !p.is(name) {
		return api.OK
	}
	if e := p.cut(); e != api.OK {
		return e
	}
	delete(p.files, name)
	return api.OK
}

// crash makes the power come back.
func (p *plain) crash(keep []int) {
	for _, name := range p.names() {
		f := p.files[name]
		if f.Pending == "" {
			continue
		}
		stay := uint64(0)
		if len(keep) > 0 {
			stay = uint64(keep[0]) % uint64(len(f.Pending)+1)
			keep = keep[1:]
		}
		p.files[name] = data(name, f.Data+f.Pending[:stay])
	}
	p.gone, p.left = false, -1
}

// first tells the first error.
func firstOf(l ...func() api.Errno) api.Errno {
	for _, f := range l {
		if e := f(); e != api.OK {
			return e
		}
	}
	return api.OK
}

// swap makes bytes the manifest.
func (p *plain) swap(s string) api.Errno {
	if e := p.remove("MANIFEST.new"); e != api.OK {
		return e
	}
	if e := p.create("MANIFEST.new"); e != api.OK {
		return e
	}
	e := p.append("MANIFEST.new", s)
	if e == api.ErrFull && p.remove("MANIFEST.new") != api.OK {
		return api.ErrCut
	}
	if e != api.OK {
		return e
	}
	return firstOf(func() api.Errno { return p.sync("MANIFEST.new") }, func() api.Errno { return p.rename("MANIFEST.new", "MANIFEST") })
}

// slow is a log: all payloads that are there, from the first batch on.
type slow struct {
	p     *plain
	c     api.Config
	gen   int64
	segs  []manif.Entry
	first int64
	all   []string
}

func (l *slow) next() int64 { return l.first + int64(len(l.all)) }

// last is the name of the open segment's file.
func (l *slow) last() string {
	x := l.segs[len(l.segs)-1]
	return called(x.Gen, x.First)
}

// bytes are the manifest's.
func (l *slow) bytes(more ...manif.Entry) string {
	var all []int64
	for _, x := range slices.Concat(l.segs, more) {
		all = append(all, x.Gen, x.First)
	}
	return manifest(l.gen, all...)
}

// begin makes a segment, and swaps the manifest of it, behind all others.
func (l *slow) begin(x manif.Entry) api.Errno {
	name := called(x.Gen, x.First)
	return firstOf(
		func() api.Errno { return l.p.create(name) },
		func() api.Errno { return l.p.append(name, header(x.First)) },
		func() api.Errno { return l.p.sync(name) },
		func() api.Errno { return l.p.swap(l.bytes(x)) },
	)
}

// slowMay tells whether a Config may be.
func slowMay(c api.Config) bool {
	return c.SegSize >= 64 && c.SegSize <= 65536 && c.Every >= 1 && c.Every <= 64 && c.V >= 1 && c.V <= 3
}

// slowInit begins a log.
func slowInit(p *plain, first int64, c api.Config) (*slow, api.Errno) {
	if !slowMay(c) || first < 0 || first > maxSeq {
		return nil, api.ErrArg
	}
	if p.gone {
		return nil, api.ErrCut
	}
	if p.is("MANIFEST") {
		return nil, api.ErrTwice
	}
	for _, name := range p.names() {
		if e := p.remove(name); e != api.OK {
			return nil, e
		}
	}
	l := &slow{p: p, c: c, first: first}
	x := manif.Entry{Gen: 0, First: first}
	e := l.begin(x)
	if e == api.ErrFull && p.remove(called(0, first)) != api.OK {
		e = api.ErrCut
	}
	if e != api.OK {
		return nil, e
	}
	l.segs = []manif.Entry{x}
	return l, api.OK
}

// slowLoad reads the manifest.
func (l *slow) slowLoad() api.Errno {
	if l.p.gone {
		return api.ErrCut
	}
	if !l.p.is("MANIFEST") {
		return api.ErrNone
	}
	s := l.p.read("MANIFEST")
	if len(s) < 4 {
		return api.ErrShort
	}
	if summed(s[:len(s)-4]) != s {
		return api.ErrSum
	}
	if len(s) < 34 || (len(s)-18)%16 != 0 || len(s) > 18+16*maxFiles {
		return api.ErrForm
	}
	number := func(at int) int64 { return int64(binary.BigEndian.Uint64([]byte(s[at:]))) }
	l.gen = number(4)
	may := l.gen >= 0 && l.gen <= maxGen
	for at := 14; at < len(s)-4; at += 16 {
		x := manif.Entry{Gen: number(at), First: number(at + 8)}
		may = may && x.Gen >= 0 && x.Gen <= l.gen && x.First >= 0 && x.First <= maxSeq
		may = may && (len(l.segs) == 0 || l.segs[len(l.segs)-1].First < x.First)
		l.segs = append(l.segs, x)
	}
	if !may || l.bytes() != s {
		return api.ErrForm
	}
	return api.OK
}

// slowScan tells the payloads that stand behind a header, one behind the other.
func slowScan(s string, first int64) (l []string, good int) {
	for good = 16; ; {
		if len(s)-good < 16 {
			return l, good
		}
		n := int(binary.BigEndian.Uint32([]byte(s[good:])))
		if n < 1 || n > maxPayload || len(s)-good < 16+n || first >= maxSeq {
			return l, good
		}
		payload := s[good+16 : good+16+n]
		if framed(first, payload) != s[good:good+16+n] {
			return l, good
		}
		l = append(l, payload)
		good += 16 + n
		first++
	}
}

// take looks at one of the segments.
func (l *slow) take(i int) api.Errno {
	x := l.segs[i]
	if !l.p.is(called(x.Gen, x.First)) {
		return api.ErrForm
	}
	s := l.p.read(called(x.Gen, x.First))
	if !strings.HasPrefix(s, header(x.First)) {
		return api.ErrForm
	}
	payloads, good := slowScan(s, x.First)
	l.all = append(l.all, payloads...)
	if i == len(l.segs)-1 {
		if good < len(s) {
			return l.p.trim(called(x.Gen, x.First), good)
		}
		return api.OK
	}
	if good < len(s) {
		return api.ErrSum
	}
	if x.First+int64(len(payloads)) != l.segs[i+1].First {
		return api.ErrForm
	}
	return api.OK
}

// slowOpen opens a log.
func slowOpen(p *plain, c api.Config) (*slow, api.Errno) {
	if !slowMay(c) {
		return nil, api.ErrArg
	}
	l := &slow{p: p, c: c}
	if e := l.slowLoad(); e != api.OK {
		return nil, e
	}
	l.first = l.segs[0].First
	if e := p.remove("MANIFEST.new"); e != api.OK {
		return nil, e
	}
	for _, name := range p.names() {
		its := slices.ContainsFunc(l.segs, func(x manif.Entry) bool { return called(x.Gen, x.First) == name })
		if isCalled(name) && !its {
			if e := p.remove(name); e != api.OK {
				return nil, e
			}
		}
	}
	for i := range l.segs {
		if e := l.take(i); e != api.OK {
			return nil, e
		}
	}
	return l, api.OK
}

func (l *slow) append(payload string) (int64, api.Errno) {
	if payload == "" {
		return 0, api.ErrForm
	}
	if len(payload) > maxPayload || l.next() == maxSeq {
		return 0, api.ErrTooLarge
	}
	if l.p.gone {
		return 0, api.ErrCut
	}
	x := manif.Entry{Gen: l.gen, First: l.next()}
	size := len(l.p.read(l.last()))
	rotated := size > 16 && size+16+len(payload) > l.c.SegSize
	bytes, files := 16+len(payload), 0
	if rotated {
		bytes, files = bytes+16+len(l.bytes(x)), 2
	}
	if bytes > l.p.capacity-l.p.used() || files > maxFiles-len(l.p.files) {
		return 0, api.ErrFull
	}
	if rotated {
		if e := firstOf(func() api.Errno { return l.p.sync(l.last()) }, func() api.Errno { return l.begin(x) }); e != api.OK {
			return 0, e
		}
		l.segs = append(l.segs, x)
	}
	if e := l.p.append(l.last(), framed(l.next(), payload)); e != api.OK {
		return 0, e
	}
	l.all = append(l.all, payload)
	return l.next() - 1, api.OK
}

func (l *slow) sync() api.Errno {
	if l.p.gone {
		return api.ErrCut
	}
	return l.p.sync(l.last())
}

func (l *slow) read(seq int64) (string, api.Errno) {
	switch {
	case seq >= 0 && seq < l.first:
		return "", api.ErrGone
	case seq < 0 || seq >= l.next():
		return "", api.ErrNone
	case l.p.gone:
		return "", api.ErrCut
	}
	return l.all[seq-l.first], api.OK
}

func (l *slow) those(a, b int64) ([]string, api.Errno) {
	switch {
	case a < 0 || a > b:
		return nil, api.ErrArg
	case a < l.first:
		return nil, api.ErrGone
	case b > l.next():
		return nil, api.ErrNone
	case l.p.gone && a < b:
		return nil, api.ErrCut
	}
	return l.all[a-l.first : b-l.first], api.OK
}
