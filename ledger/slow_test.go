package ledger_test

import (
	"math"
	"math/big"
	"slices"
	"testing"

	"souk/api"
	"souk/ledger"
)

// The limits, by the words of the document.
const (
	maxAccts    = 64
	maxInsts    = 16
	maxAmount   = 1125899906842624
	maxTotal    = 4611686018427387904
	maxPostings = 64
)

// dice tells numbers that look like any, the same ones in each run.
type dice uint64

func (d *dice) next() uint64 {
	*d ^= *d << 13
	*d ^= *d >> 7
	*d ^= *d << 17
	return uint64(*d) * 0x2545F4914F6CDD1D
}

func (d *dice) below(n int) int { return int(d.next() >> 1 % uint64(n)) }

// often tells yes but once in n times.
func (d *dice) often(n int) bool { return d.below(n) > 0 }

// upTo tells a number from 0 to n: small ones as often as great ones, and n itself.
func (d *dice) upTo(n int64) int64 {
	if !d.often(4) {
		return n
	}
	return int64(d.next()>>1%uint64(n+1)) >> d.below(50)
}

// number tells one of any length of bits, above 0 or below.
func (d *dice) number() int64 { return int64(d.next()) >> d.below(64) }

// from tells one of a list.
func from[T any](d *dice, l ...T) T { return l[d.below(len(l))] }

// place is an account and an asset that there can be: few of them, so that the
// same ones come again.
func (d *dice) place() (acct, asset int) {
	return from(d, 1, 1, 2, 2, 3, maxAccts, d.below(maxAccts)+1), from(d, 0, 0, 1, maxInsts, d.below(maxInsts+1))
}

// rows are some that may be.
func (d *dice) rows() []api.Row {
	var inside []api.Row
	for range d.below(12) {
		r := api.Row{}
		r.Acct, r.Asset = d.place()
		all := d.upTo(maxAmount)
		r.Held = d.upTo(all)
		r.Free = all - r.Held
		if all > 0 && !slices.ContainsFunc(inside, func(o api.Row) bool { return o.Acct == r.Acct && o.Asset == r.Asset }) {
			inside = append(inside, r)
		}
	}
	return balanced(inside)
}

// balanced are rows of accounts but 0, in their row, with those of account 0
// ahead of them that they need.
func balanced(inside []api.Row) []api.Row {
	var l []api.Row
	for asset := range maxInsts + 1 {
		if n := slowSum(inside, asset).Int64(); n != 0 {
			l = append(l, api.Row{Acct: 0, Asset: asset, Free: -n})
		}
	}
	for acct := range maxAccts + 1 {
		for asset := range maxInsts + 1 {
			for _, r := range inside {
				if r.Acct == acct && r.Asset == asset {
					l = append(l, r)
				}
			}
		}
	}
	return l
}

// size is a number without its sign, maxAmount at most.
func size(n int64) int64 { return min(max(n, -n), maxAmount) }

// postings are some that may be posted, but for what there is.
func (d *dice) postings(l []api.Row) []ledger.Posting {
	var p []ledger.Posting
	for range from(d, 0, 1, 1, 1, 2, 2, 3, 4) {
		p = append(p, d.pair(l)...)
	}
	d.mix(p)
	return p
}

// pair is two postings of an amount that goes from one to another: often as much
// as a row has, so that nothing is left, or as it may have more; or one too many.
func (d *dice) pair(l []api.Row) []ledger.Posting {
	var one, other ledger.Posting
	one.Acct, one.Asset = d.place()
	other.Acct, _ = d.place()
	n := d.upTo(maxAmount)
	part := d.below(2)
	if len(l) > 0 && d.often(4) {
		r := from(d, l...)
		has := from(d, size(r.Free), size(r.Held), size(r.Free))
		part = 0
		if has == size(r.Held) {
			part = 1
		}
		one.Acct, one.Asset = r.Acct, r.Asset
		n = from(d, has, has, has/2, has/2, min(has, 1), min(has+1, maxAmount))
	}
	if len(l) > 0 && !d.often(4) {
		r := from(d, l...)
		one.Acct, other.Acct, one.Asset = 0, r.Acct, r.Asset
		most := size(maxAmount - size(r.Free+r.Held))
		n = from(d, most, min(most+1, maxAmount))
	}
	if !d.often(4) {
		other.Acct = 0
	}
	other.Asset = one.Asset
	*partOf(&one, part) -= n
	*partOf(&other, d.below(2)) += n
	return []ledger.Posting{one, other}
}

// partOf is one of what a posting makes more: of account 0 Free.
func partOf(p *ledger.Posting, part int) *int64 {
	if p.Acct == 0 || part == 0 {
		return &p.Free
	}
	return &p.Held
}

// mix puts postings into another row.
func (d *dice) mix(p []ledger.Posting) {
	for i := range p {
		j := d.below(i + 1)
		p[i], p[j] = p[j], p[i]
	}
}

// of are rows, of their accounts, assets, Free and Held.
func of(l ...int64) []api.Row {
	var told []api.Row
	for four := range slices.Chunk(l, 4) {
		told = append(told, api.Row{Acct: int(four[0]), Asset: int(four[1]), Free: four[2], Held: four[3]})
	}
	return told
}

// by are postings, of their accounts, assets, Free and Held.
func by(l ...int64) []ledger.Posting {
	var told []ledger.Posting
	for _, r := range of(l...) {
		told = append(told, ledger.Posting{Acct: r.Acct, Asset: r.Asset, Free: r.Free, Held: r.Held})
	}
	return told
}

// full are rows of all accounts and assets, each with as much as may be.
func full() []api.Row {
	var inside []api.Row
	for acct := 1; acct <= maxAccts; acct++ {
		for asset := range maxInsts + 1 {
			held := int64(asset) * maxAmount / maxInsts
			inside = append(inside, api.Row{Acct: acct, Asset: asset, Free: maxAmount - held, Held: held})
		}
	}
	return balanced(inside)
}

func wide(n int64) *big.Int { return big.NewInt(n) }

// slowSum is all rows of an asset, together, as mathematics has it.
func slowSum(l []api.Row, asset int) *big.Int {
	sum := new(big.Int)
	for _, r := range l {
		if r.Asset == asset {
			sum.Add(sum, wide(r.Free))
			sum.Add(sum, wide(r.Held))
		}
	}
	return sum
}

// near is a number, or 0, if it is too far.
func near(n *big.Int) int64 {
	if n.CmpAbs(wide(maxTotal)) > 0 {
		return 0
	}
	return n.Int64()
}

// slowMay tells by the words of the document whether rows may be.
func slowMay(l []api.Row) bool {
	for i, r := range l {
		all := new(big.Int).Add(wide(r.Free), wide(r.Held))
		switch {
		case r.Acct < 0 || r.Acct > maxAccts || r.Asset < 0 || r.Asset > maxInsts:
			return false
		case r.Free == 0 && r.Held == 0:
			return false
		case r.Acct == 0 && r.Held != 0:
			return false
		case r.Acct > 0 && (r.Free < 0 || r.Held < 0 || all.Cmp(wide(maxAmount)) > 0):
			return false
		}
		for _, ahead := range l[:i] {
			if ahead.Acct > r.Acct || ahead.Acct == r.Acct && ahead.Asset >= r.Asset {
				return false
			}
		}
	}
	for asset := range maxInsts + 1 {
		if slowSum(l, asset).Sign() != 0 {
			return false
		}
	}
	return true
}

// slowMayPost tells by the words of the document whether postings are no ErrArg.
func slowMayPost(p []ledger.Posting) bool {
	sums := map[int]*big.Int{}
	for _, x := range p {
		if x.Acct < 0 || x.Acct > maxAccts || x.Asset < 0 || x.Asset > maxInsts || x.Acct == 0 && x.Held != 0 {
			return false
		}
		if x.Free < -maxAmount || x.Free > maxAmount || x.Held < -maxAmount || x.Held > maxAmount {
			return false
		}
		if sums[x.Asset] == nil {
			sums[x.Asset] = new(big.Int)
		}
		sums[x.Asset].Add(sums[x.Asset], wide(x.Free))
		sums[x.Asset].Add(sums[x.Asset], wide(x.Held))
	}
	for _, n := range sums {
		if n.Sign() != 0 {
			return false
		}
	}
	return true
}

// table is what each account has of each asset.
type table [maxAccts + 1][maxInsts + 1]struct{ free, held int64 }

// laid is a table of rows that may be.
func laid(l []api.Row) *table {
	var all table
	for _, r := range l {
		all[r.Acct][r.Asset].free = r.Free
		all[r.Acct][r.Asset].held = r.Held
	}
	return &all
}

// add puts so much into a table.
func (all *table) add(acct, asset int, free, held int64) {
	all[acct][asset].free += free
	all[acct][asset].held += held
}

// rows are what a table says.
func (all *table) rows() []api.Row {
	var l []api.Row
	for acct := range all {
		for asset, r := range all[acct] {
			if r.free != 0 || r.held != 0 {
				l = append(l, api.Row{Acct: acct, Asset: asset, Free: r.free, Held: r.held})
			}
		}
	}
	return l
}

// slowPost posts by the words of the document.
func slowPost(l []api.Row, p []ledger.Posting) ([]api.Row, api.Errno) {
	switch {
	case !slowMay(l):
		return nil, api.ErrForm
	case len(p) > maxPostings:
		return nil, api.ErrTooLarge
	case !slowMayPost(p):
		return nil, api.ErrArg
	}
	all := laid(l)
	for _, x := range p {
		all.add(x.Acct, x.Asset, x.Free, x.Held)
	}
	behind := all.rows()
	over := false
	for _, r := range behind {
		if r.Acct > 0 && (r.Free < 0 || r.Held < 0) {
			return nil, api.ErrFunds
		}
		over = over || r.Acct > 0 && r.Free+r.Held > maxAmount
	}
	if over {
		return nil, api.ErrOver
	}
	return behind, api.OK
}

// slowGo is Move, and Pay, by the words of the document.
func slowGo(pay bool, l []api.Row, from, to, asset int, n int64) ([]api.Row, api.Errno) {
	switch {
	case !slowMay(l):
		return nil, api.ErrForm
	case n < 1, n > maxAmount, from == to, from < 0, from > maxAccts, to < 0, to > maxAccts, asset < 0, asset > maxInsts, pay && from == 0:
		return nil, api.ErrArg
	}
	all := laid(l)
	has, gets := all[from][asset], all[to][asset]
	switch {
	case pay && has.held < n, !pay && from > 0 && has.free < n:
		return nil, api.ErrFunds
	case to > 0 && gets.free+gets.held+n > maxAmount:
		return nil, api.ErrOver
	}
	if pay {
		all.add(from, asset, 0, -n)
	} else {
		all.add(from, asset, -n, 0)
	}
	all.add(to, asset, n, 0)
	return all.rows(), api.OK
}

// slowTurn is Hold, and Release, by the words of the document.
func slowTurn(release bool, l []api.Row, acct, asset int, n int64) ([]api.Row, api.Errno) {
	switch {
	case !slowMay(l):
		return nil, api.ErrForm
	case n < 1, n > maxAmount, acct < 1, acct > maxAccts, asset < 0, asset > maxInsts:
		return nil, api.ErrArg
	}
	all := laid(l)
	has := all[acct][asset]
	switch {
	case release && has.held < n, !release && has.free < n:
		return nil, api.ErrFunds
	case release:
		all.add(acct, asset, n, -n)
	default:
		all.add(acct, asset, -n, n)
	}
	return all.rows(), api.OK
}

// spared is a list's own, with room behind it.
func spared[T any](l []T) []T { return append(make([]T, 0, len(l)+8), l...) }

// stays says whether a list, and the room behind it, is as it was.
func stays[T comparable](t *testing.T, name string, l, was []T) {
	t.Helper()
	var nothing T
	if !slices.Equal(l, was) || slices.ContainsFunc(l[len(l):cap(l)], func(x T) bool { return x != nothing }) {
		t.Errorf("%s: %v became %v", name, was, l[:cap(l)])
	}
}

// spoil writes over a list, and over the room behind it.
func spoil[T any](l []T, by T) {
	l = l[:cap(l)]
	for i := range l {
		l[i] = by
	}
}

// junk is a row that is in none of the tests'.
var junk = api.Row{Acct: 77, Asset: 88, Free: 99, Held: 111}

// answers says what is wrong with what a call answers to rows, and whether they
// stay, and share nothing with what is told.
func answers(t *testing.T, name string, l []api.Row, call func([]api.Row) ([]api.Row, api.Errno), want []api.Row, wrong api.Errno) {
	t.Helper()
	own := spared(l)
	got, e := call(own)
	if e != wrong || !slices.Equal(got, want) {
		t.Errorf("%s of %v: %v, %d, not %v, %d", name, l, got, e, want, wrong)
		return
	}
	stays(t, name, own, l)
	spoil(got, junk)
	stays(t, name+", what is told written over", own, l)
	got, _ = call(own)
	spoil(own, junk)
	if !slices.Equal(got, want) {
		t.Errorf("%s of %v, written over: %v, not %v", name, l, got, want)
	}
}

// posts says what is wrong with what is posted.
func posts(t *testing.T, name string, l []api.Row, p []ledger.Posting, want []api.Row, wrong api.Errno) {
	t.Helper()
	own := spared(p)
	answers(t, name, l, func(l []api.Row) ([]api.Row, api.Errno) { return ledger.Post(l, own) }, want, wrong)
	stays(t, name+", postings", own, p)
	got, _ := ledger.Post(l, own)
	spoil(own, ledger.Posting{Acct: 77, Asset: 88, Free: 99, Held: 111})
	if !slices.Equal(got, want) {
		t.Errorf("%s of %v, the postings written over: %v, not %v", name, l, got, want)
	}
}

// posted are the rows behind postings that must be OK.
func posted(t *testing.T, l []api.Row, p []ledger.Posting) []api.Row {
	t.Helper()
	behind, e := ledger.Post(l, p)
	if e != api.OK {
		t.Fatalf("Post(%v, %v): %d", l, p, e)
	}
	return behind
}

// The slow ones are held against some answers that are worked by hand.
func TestTheSlowLedger(t *testing.T) {
	if api.MaxAccts != maxAccts || api.MaxInsts != maxInsts || api.MaxAmount != maxAmount || api.MaxTotal != maxTotal {
		t.Errorf("%d, %d, %d, %d", api.MaxAccts, api.MaxInsts, int64(api.MaxAmount), int64(api.MaxTotal))
	}
	some := of(0, 0, -100, 0, 1, 0, 70, 30)
	if !slowMay(nil) || !slowMay(some) || slowMay(some[:1]) || slowMay(of(1, 0, math.MinInt64, math.MinInt64)) || !slowMay(full()) {
		t.Error("slowMay")
	}
	if l, e := slowPost(some, by(1, 0, -70, -30, 0, 0, 100, 0)); e != api.OK || len(l) > 0 {
		t.Error(l, e)
	}
	if l, e := slowGo(true, some, 1, 2, 0, 20); e != api.OK || !slices.Equal(l, of(0, 0, -100, 0, 1, 0, 70, 10, 2, 0, 20, 0)) {
		t.Error(l, e)
	}
	if l, e := slowTurn(true, some, 1, 0, 30); e != api.OK || !slices.Equal(l, of(0, 0, -100, 0, 1, 0, 100, 0)) {
		t.Error(l, e)
	}
	d := dice(1)
	for range 2000 {
		if l := d.rows(); !slowMay(l) {
			t.Fatalf("%v", l)
		}
	}
}
