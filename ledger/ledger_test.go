package ledger_test

import (
	"math"
	"math/big"
	"slices"
	"testing"

	"souk/api"
	"souk/ledger"
)

// some are rows that may be: the edges, and some between.
func some() [][]api.Row {
	l := [][]api.Row{
		nil,
		{},
		of(0, 0, -100, 0, 1, 0, 100, 0),
		of(0, 0, -100, 0, 1, 0, 0, 100),
		of(0, 0, -100, 0, 1, 0, 70, 30),
		of(0, 0, -1, 0, maxAccts, 0, 1, 0),
		of(0, maxInsts, -1, 0, 1, maxInsts, 1, 0),
		of(0, maxInsts, -1, 0, maxAccts, maxInsts, 0, 1),
		of(0, 0, -maxAmount, 0, 1, 0, maxAmount, 0),
		of(0, 0, -maxAmount, 0, 1, 0, 0, maxAmount),
		of(0, 0, -maxAmount, 0, 1, 0, 1, maxAmount-1),
		of(0, 0, -maxAmount, 0, 1, 0, maxAmount-1, 1),
		of(0, 0, -2*maxAmount, 0, 1, 0, maxAmount, 0, 2, 0, 0, maxAmount),
		of(0, 0, -7, 0, 0, 1, -8, 0, 1, 0, 7, 0, 1, 1, 8, 0),
		of(0, 0, -7, 0, 0, 1, -8, 0, 1, 1, 8, 0, 2, 0, 3, 4),
		of(0, 0, -7, 0, 0, 3, -1, 0, 0, maxInsts, -8, 0, 2, 0, 7, 0, 2, 3, 1, 0, 9, maxInsts, 4, 4),
		full(),
	}
	d := dice(2)
	for range 300 {
		l = append(l, d.rows())
	}
	return l
}

// noSome are rows that may not be: each but for one thing, where that can be.
func noSome() map[string][]api.Row {
	const least, greatest = math.MinInt64, math.MaxInt64
	return map[string][]api.Row{
		"one alone":                         of(1, 0, 5, 0),
		"one alone, held":                   of(1, 0, 0, 5),
		"one alone, of account 0":           of(0, 0, -5, 0),
		"one alone, of account 0, above":    of(0, 0, 5, 0),
		"accounts that fall":                of(1, 0, 5, 0, 0, 0, -5, 0),
		"accounts that fall, behind":        of(0, 0, -9, 0, 2, 0, 5, 0, 1, 0, 4, 0),
		"accounts that fall, assets rise":   of(0, 0, -9, 0, 0, 1, -4, 0, 2, 0, 9, 0, 1, 1, 4, 0),
		"assets that fall":                  of(0, 1, -4, 0, 0, 0, -9, 0, 1, 0, 9, 0, 1, 1, 4, 0),
		"assets that fall, behind":          of(0, 0, -9, 0, 0, 1, -4, 0, 1, 1, 4, 0, 1, 0, 9, 0),
		"by assets, then by accounts":       of(0, 0, -9, 0, 1, 0, 9, 0, 0, 1, -4, 0, 1, 1, 4, 0),
		"twice":                             of(0, 0, -9, 0, 1, 0, 5, 0, 1, 0, 4, 0),
		"twice, the same":                   of(0, 0, -8, 0, 1, 0, 4, 0, 1, 0, 4, 0),
		"twice, free and held":              of(0, 0, -9, 0, 1, 0, 5, 0, 1, 0, 0, 4),
		"twice, of account 0":               of(0, 0, -5, 0, 0, 0, -4, 0, 1, 0, 9, 0),
		"twice, at the end":                 of(0, 0, -9, 0, 0, 1, -5, 0, 1, 1, 5, 0, 2, 0, 5, 0, 2, 0, 4, 0),
		"account -1":                        of(-1, 0, 5, 0, 0, 0, -5, 0),
		"account -1, below":                 of(-1, 0, -5, 0, 1, 0, 5, 0),
		"account one beyond":                of(0, 0, -5, 0, maxAccts+1, 0, 5, 0),
		"the greatest account":              of(0, 0, -5, 0, greatest, 0, 5, 0),
		"the least account":                 of(least, 0, 5, 0, 0, 0, -5, 0),
		"asset -1":                          of(0, -1, -5, 0, 1, -1, 5, 0),
		"asset one beyond":                  of(0, maxInsts+1, -5, 0, 1, maxInsts+1, 5, 0),
		"asset one beyond, of one account":  of(0, 0, -5, 0, 1, 0, 5, 0, 1, maxInsts+1, 5, 0),
		"the greatest asset":                of(0, greatest, -5, 0, 1, greatest, 5, 0),
		"the least asset":                   of(0, least, -5, 0, 1, least, 5, 0),
		"nothing":                           of(1, 0, 0, 0),
		"nothing, of account 0":             of(0, 0, 0, 0),
		"nothing, behind":                   of(0, 0, -5, 0, 1, 0, 5, 0, 2, 0, 0, 0),
		"nothing, of another asset":         of(0, 0, -5, 0, 1, 0, 5, 0, 1, 1, 0, 0),
		"nothing, of account 0, behind":     of(0, 0, -5, 0, 0, 1, 0, 0, 1, 0, 5, 0),
		"held of account 0":                 of(0, 0, -5, 5),
		"held of account 0, and free":       of(0, 0, -9, 5, 1, 0, 4, 0),
		"held of account 0, below":          of(0, 0, 0, -5, 1, 0, 5, 0),
		"held and free of account 0, below": of(0, 0, -4, -1, 1, 0, 5, 0),
		"free below 0":                      of(0, 0, -5, 0, 1, 0, -1, 6),
		"free below 0, account 0 above":     of(0, 0, 5, 0, 1, 0, -5, 0),
		"free below 0, another one above":   of(0, 0, -5, 0, 1, 0, -1, 0, 2, 0, 6, 0),
		"held below 0":                      of(0, 0, -5, 0, 1, 0, 6, -1),
		"held below 0, account 0 above":     of(0, 0, 5, 0, 1, 0, 0, -5),
		"free and held together 0":          of(1, 0, 5, -5),
		"free and held together 0, turned":  of(1, 0, -5, 5),
		"free one more":                     of(0, 0, -maxAmount-1, 0, 1, 0, maxAmount+1, 0),
		"held one more":                     of(0, 0, -maxAmount-1, 0, 1, 0, 0, maxAmount+1),
		"a total of one more":               of(0, 0, -maxAmount-1, 0, 1, 0, maxAmount, 1),
		"a total of one more, held":         of(0, 0, -maxAmount-1, 0, 1, 0, 1, maxAmount),
		"a total of twice as much":          of(0, 0, -2*maxAmount, 0, 1, 0, maxAmount, maxAmount),
		"free above, held below 0":          of(0, 0, -maxAmount, 0, 1, 0, maxAmount+1, -1),
		"held above, free below 0":          of(0, 0, -maxAmount, 0, 1, 0, -1, maxAmount+1),
		"the greatest, and account 0":       of(0, 0, -greatest, 0, 1, 0, greatest, 0),
		"the greatest total":                of(0, 0, -maxTotal, 0, 1, 0, maxTotal/2, maxTotal/2),
		"the greatest, twice":               of(0, 0, 2, 0, 1, 0, greatest, greatest),
		"the greatest, and the least":       of(0, 0, least, 0, 1, 0, greatest, 1),
		"the least, twice":                  of(1, 0, least, least),
		"the least, of account 0":           of(0, 0, least, 0),
		"the greatest, of account 0":        of(0, 0, greatest, 0),
		"too far, of account 0":             of(0, 0, -maxTotal-1, 0),
		"too far, of account 0, above":      of(0, 0, maxTotal+1, 0, 1, 0, 1, 0),
		"all the way round":                 of(0, 0, least, 0, 1, 0, 0, least),
		"one too many together":             of(0, 0, -5, 0, 1, 0, 6, 0),
		"one too few together":              of(0, 0, -5, 0, 1, 0, 4, 0),
		"one too many held":                 of(0, 0, -5, 0, 1, 0, 5, 1),
		"0 together, but of two assets":     of(0, 0, -5, 0, 1, 1, 5, 0),
		"of two assets, turned":             of(0, 0, -5, 0, 0, 1, -6, 0, 1, 0, 6, 0, 1, 1, 5, 0),
		"of the last asset":                 of(0, 0, -5, 0, 0, maxInsts, -5, 0, 1, 0, 5, 0, 1, maxInsts, 4, 0),
		"one alone behind":                  of(0, 0, -5, 0, 1, 0, 5, 0, 1, 1, 5, 0),
	}
}

// P15.1: May.

func TestRowsThatMayBe(t *testing.T) {
	for _, l := range some() {
		own := spared(l)
		if !slowMay(l) || !ledger.May(own) {
			t.Errorf("%v may be", l)
		}
		stays(t, "May", own, l)
	}
}

func TestRowsThatMayNotBe(t *testing.T) {
	for name, l := range noSome() {
		own := spared(l)
		if slowMay(l) || ledger.May(own) {
			t.Errorf("%s: %v may not be", name, l)
		}
		stays(t, "May, "+name, own, l)
	}
}

func TestAFullLedgerMayBeAndNotOneMore(t *testing.T) {
	all := full()
	for at, was := range all {
		for _, change := range []func(r *api.Row){
			func(r *api.Row) { r.Free++ }, func(r *api.Row) { r.Free-- },
			func(r *api.Row) { r.Held++ }, func(r *api.Row) { r.Held-- },
		} {
			change(&all[at])
			if ledger.May(all) {
				t.Errorf("%v in the place of %v", all[at], was)
			}
			all[at] = was
		}
		if ledger.May(slices.Concat(all[:at], all[at+1:])) {
			t.Errorf("without %v", was)
		}
	}
	for _, more := range [][]api.Row{of(0, 0, -1, 0), of(maxAccts, maxInsts, 1, 0), of(maxAccts+1, 0, 1, 0), all} {
		if ledger.May(slices.Concat(all, more)) {
			t.Errorf("with %v", more)
		}
	}
	if ledger.May(slices.Repeat(of(1, 0, 1, 0), 1<<16)) {
		t.Error("the same again and again")
	}
}

// nearly changes one thing of rows.
func nearly(d *dice, l []api.Row) []api.Row {
	l = slices.Clone(l)
	if len(l) == 0 {
		return []api.Row{{Acct: d.below(3) - 1, Asset: d.below(3) - 1, Free: int64(d.below(3) - 1), Held: int64(d.below(3) - 1)}}
	}
	i, j := d.below(len(l)), d.below(len(l))
	r := &l[i]
	switch d.below(9) {
	case 0:
		r.Acct = from(d, -1, 0, r.Acct-1, r.Acct+1, maxAccts, maxAccts+1)
	case 1:
		r.Asset = from(d, -1, 0, r.Asset-1, r.Asset+1, maxInsts, maxInsts+1)
	case 2:
		r.Free = from(d, 0, -1, -r.Free, r.Free+1, maxAmount, maxAmount+1, d.number())
	case 3:
		r.Held = from(d, 0, -1, -r.Held, r.Held+1, maxAmount, maxAmount+1, d.number())
	case 4:
		n := from(d, 1, -1, r.Free, -r.Held, maxAmount)
		r.Free -= n
		r.Held += n
	case 5:
		// Of one asset all stay 0 together, as if that was moved.
		n := from(d, 1, -1, r.Free, -l[j].Free, maxAmount)
		r.Free -= n
		l[j].Free += n
	case 6:
		l[i], l[j] = l[j], l[i]
	case 7:
		l = slices.Insert(l, j, *r)
	case 8:
		l = slices.Delete(l, i, i+1)
	}
	return l
}

func TestMayOfRowsThatNearlyMayBe(t *testing.T) {
	d := dice(3)
	var may [2]int
	for range 30000 {
		l := d.rows()
		for range d.below(3) {
			l = nearly(&d, l)
		}
		want := slowMay(l)
		if got := ledger.May(l); got != want {
			t.Errorf("%v: %v, not %v", l, got, want)
		}
		if want {
			may[0]++
		} else {
			may[1]++
		}
	}
	if may[0] < 3000 || may[1] < 3000 {
		t.Errorf("%v", may)
	}
}

// P15.1: Same.

func TestSame(t *testing.T) {
	l := of(0, 0, -7, 0, 0, 1, -8, 0, 1, 0, 7, 0, 1, 1, 5, 3)
	look := func(a, b []api.Row, want bool) {
		t.Helper()
		one, other := spared(a), spared(b)
		if ledger.Same(one, other) != want || ledger.Same(other, one) != want {
			t.Errorf("%v and %v: not %v", a, b, want)
		}
		stays(t, "Same", one, a)
		stays(t, "Same", other, b)
	}
	look(nil, nil, true)
	look(nil, []api.Row{}, true)
	look([]api.Row{}, []api.Row{}, true)
	look(l, slices.Clone(l), true)
	look(l, nil, false)
	look(l, []api.Row{}, false)
	look(make([]api.Row, 1), nil, false)
	look(make([]api.Row, 1), make([]api.Row, 2), false)
	for i := range l {
		look(l, l[:i], false)
		look(l, slices.Delete(slices.Clone(l), i, i+1), false)
		look(l, slices.Insert(slices.Clone(l), i, l[i]), false)
		for _, change := range []func(r *api.Row){
			func(r *api.Row) { r.Acct++ }, func(r *api.Row) { r.Asset++ }, func(r *api.Row) { r.Free++ }, func(r *api.Row) { r.Held++ },
			func(r *api.Row) { r.Acct = -r.Acct - 1 }, func(r *api.Row) { r.Free += math.MinInt64 }, func(r *api.Row) { r.Held += 1 << 32 },
			func(r *api.Row) { r.Free, r.Held = r.Held, r.Free },
		} {
			other := slices.Clone(l)
			change(&other[i])
			look(l, other, false)
		}
		for j := range i {
			other := slices.Clone(l)
			other[i], other[j] = other[j], other[i]
			look(l, other, false)
		}
	}
	// It is not asked whether they may be.
	for _, l := range noSome() {
		look(l, slices.Clone(l), true)
		look(l, l[1:], false)
	}
}

// P15.1: Get, Total, Sum, Of.

func TestGetTotalSumOfAreByTheirWords(t *testing.T) {
	l := of(0, 0, -175, 0, 0, 2, -8, 0, 1, 0, 70, 30, 1, 2, 0, 8, 3, 0, 75, 0)
	for _, c := range []struct {
		acct, asset int
		want        api.Row
		total       int64
	}{
		{0, 0, api.Row{Acct: 0, Asset: 0, Free: -175}, -175},
		{0, 2, api.Row{Acct: 0, Asset: 2, Free: -8}, -8},
		{1, 0, api.Row{Acct: 1, Asset: 0, Free: 70, Held: 30}, 100},
		{1, 2, api.Row{Acct: 1, Asset: 2, Held: 8}, 8},
		{3, 0, api.Row{Acct: 3, Asset: 0, Free: 75}, 75},
		{0, 1, api.Row{Acct: 0, Asset: 1}, 0},
		{1, 1, api.Row{Acct: 1, Asset: 1}, 0},
		{2, 0, api.Row{Acct: 2, Asset: 0}, 0},
		{3, 2, api.Row{Acct: 3, Asset: 2}, 0},
		{maxAccts, maxInsts, api.Row{Acct: maxAccts, Asset: maxInsts}, 0},
		{-1, 0, api.Row{Acct: -1, Asset: 0}, 0},
		{maxAccts + 1, maxInsts + 1, api.Row{Acct: maxAccts + 1, Asset: maxInsts + 1}, 0},
		{math.MinInt64, math.MaxInt64, api.Row{Acct: math.MinInt64, Asset: math.MaxInt64}, 0},
	} {
		if got := ledger.Get(l, c.acct, c.asset); got != c.want {
			t.Errorf("Get(%d, %d): %v, not %v", c.acct, c.asset, got, c.want)
		}
		if got := ledger.Total(l, c.acct, c.asset); got != c.total {
			t.Errorf("Total(%d, %d): %d, not %d", c.acct, c.asset, got, c.total)
		}
	}
	for acct, want := range map[int][]api.Row{0: l[:2], 1: l[2:4], 2: nil, 3: l[4:], 4: nil, -1: nil, math.MaxInt64: nil} {
		if got := ledger.Of(l, acct); !slices.Equal(got, want) {
			t.Errorf("Of(%d): %v, not %v", acct, got, want)
		}
	}
	for asset, want := range map[int]int64{0: 0, 1: 0, 2: 0, -1: 0, maxInsts + 1: 0} {
		if got := ledger.Sum(l, asset); got != want {
			t.Errorf("Sum(%d): %d, not %d", asset, got, want)
		}
	}
	for asset, want := range map[int]int64{0: 175, 1: 0, 2: 8} {
		if got := ledger.Sum(l[2:], asset); got != want {
			t.Errorf("Sum(%d) of those inside: %d, not %d", asset, got, want)
		}
	}
}

func TestGetTotalSumOfOfNothing(t *testing.T) {
	for _, l := range [][]api.Row{nil, {}} {
		if ledger.Get(l, 1, 2) != (api.Row{Acct: 1, Asset: 2}) || ledger.Total(l, 1, 2) != 0 || ledger.Sum(l, 2) != 0 || len(ledger.Of(l, 1)) != 0 {
			t.Errorf("%v, %d, %d, %v", ledger.Get(l, 1, 2), ledger.Total(l, 1, 2), ledger.Sum(l, 2), ledger.Of(l, 1))
		}
	}
}

func TestGetTotalSumOfOfRowsThatMayNotBe(t *testing.T) {
	// The first one of an account and asset counts, and all of them in Sum and Of.
	l := of(9, 1, 5, -7, 1, 0, 4, 1, -1, 99, 3, 0, 1, 0, 8, 2, 0, -5, 1, 1, 9, 1, 6, 6, -1, 99, 0, 0, 1, 7, 0, 0)
	for _, c := range []struct {
		acct, asset int
		want        api.Row
		total       int64
	}{
		{9, 1, l[0], -2}, {1, 0, l[1], 5}, {-1, 99, l[2], 3}, {0, -5, l[4], 2}, {1, 7, l[7], 0}, {9, 0, api.Row{Acct: 9}, 0},
	} {
		if got := ledger.Get(l, c.acct, c.asset); got != c.want {
			t.Errorf("Get(%d, %d): %v, not %v", c.acct, c.asset, got, c.want)
		}
		if got := ledger.Total(l, c.acct, c.asset); got != c.total {
			t.Errorf("Total(%d, %d): %d, not %d", c.acct, c.asset, got, c.total)
		}
	}
	for asset, want := range map[int]int64{0: 15, 1: 10, 7: 0, 99: 3, -5: 2, 2: 0} {
		if got := ledger.Sum(l, asset); got != want {
			t.Errorf("Sum(%d): %d, not %d", asset, got, want)
		}
	}
	for acct, want := range map[int][]api.Row{9: {l[0], l[5]}, 1: {l[1], l[3], l[7]}, -1: {l[2], l[6]}, 0: {l[4]}, 2: nil} {
		if got := ledger.Of(l, acct); !slices.Equal(got, want) {
			t.Errorf("Of(%d): %v, not %v", acct, got, want)
		}
	}
}

func TestTotalsThatAreTooFarAreNothing(t *testing.T) {
	const least, greatest = math.MinInt64, math.MaxInt64
	for _, c := range []struct{ free, held, want int64 }{
		{maxTotal, 0, maxTotal},
		{0, maxTotal, maxTotal},
		{maxTotal - 1, 1, maxTotal},
		{maxTotal, 1, 0},
		{1, maxTotal, 0},
		{maxTotal + 1, 0, 0},
		{maxTotal + 1, -1, maxTotal},
		{-maxTotal, 0, -maxTotal},
		{-maxTotal, -1, 0},
		{0, -maxTotal - 1, 0},
		{greatest, greatest, 0},
		{greatest, 1, 0},
		{least, least, 0},
		{least, -1, 0},
		{least, 0, 0},
		{greatest, 0, 0},
		{greatest, least, -1},
		{least, maxTotal, -maxTotal},
		{greatest, -maxTotal, maxTotal - 1},
	} {
		l := of(1, 0, c.free, c.held)
		if got := ledger.Total(l, 1, 0); got != c.want {
			t.Errorf("Total of %v: %d, not %d", l, got, c.want)
		}
		if got := ledger.Sum(l, 0); got != c.want {
			t.Errorf("Sum of %v: %d, not %d", l, got, c.want)
		}
		l = of(1, 0, c.free, 0, 5, 3, 9, 9, 2, 0, c.held, 0)
		if got := ledger.Sum(l, 0); got != c.want {
			t.Errorf("Sum of %v: %d, not %d", l, got, c.want)
		}
	}
}

func TestSumsThatAreTooFarOnTheWayAlone(t *testing.T) {
	many := slices.Repeat(of(1, 0, math.MaxInt64, math.MaxInt64, 2, 1, 3, 4), 5000)
	many = append(many, slices.Repeat(of(1, 0, -math.MaxInt64, -math.MaxInt64), 5000)...)
	if got := ledger.Sum(many, 0); got != 0 {
		t.Errorf("%d", got)
	}
	if got := ledger.Sum(append(many, of(7, 0, 40, 2)...), 0); got != 42 {
		t.Errorf("%d, not 42", got)
	}
	if got := ledger.Sum(append(many, of(7, 0, maxTotal, 0)...), 0); got != maxTotal {
		t.Errorf("%d, not MaxTotal", got)
	}
	if got := ledger.Sum(append(many, of(7, 0, maxTotal, 1)...), 0); got != 0 {
		t.Errorf("%d, too far", got)
	}
	if got := ledger.Sum(many, 1); got != 35000 {
		t.Errorf("%d, not 35000", got)
	}
}

func TestGetTotalSumOfOfAnyRows(t *testing.T) {
	d := dice(4)
	ends := []int64{0, 1, -1, maxAmount, maxTotal, maxTotal + 1, -maxTotal, -maxTotal - 1, math.MaxInt64, math.MinInt64}
	for range 10000 {
		var l []api.Row
		for range d.below(9) {
			l = append(l, api.Row{Acct: d.below(4) - 1, Asset: d.below(4) - 1, Free: from(&d, append(ends, d.number())...), Held: from(&d, append(ends, d.number())...)})
		}
		own := spared(l)
		acct, asset := d.below(4)-1, d.below(4)-1
		first := api.Row{Acct: acct, Asset: asset}
		var his []api.Row
		for _, r := range slices.Backward(l) {
			if r.Acct == acct {
				his = slices.Insert(his, 0, r)
				if r.Asset == asset {
					first = r
				}
			}
		}
		if got := ledger.Get(own, acct, asset); got != first {
			t.Errorf("Get(%v, %d, %d): %v, not %v", l, acct, asset, got, first)
		}
		if got, want := ledger.Total(own, acct, asset), near(new(big.Int).Add(wide(first.Free), wide(first.Held))); got != want {
			t.Errorf("Total(%v, %d, %d): %d, not %d", l, acct, asset, got, want)
		}
		if got, want := ledger.Sum(own, asset), near(slowSum(l, asset)); got != want {
			t.Errorf("Sum(%v, %d): %d, not %d", l, asset, got, want)
		}
		answers(t, "Of", l, func(l []api.Row) ([]api.Row, api.Errno) { return ledger.Of(l, acct), api.OK }, his, api.OK)
		stays(t, "Get, Total, Sum", own, l)
	}
}

// P15.2: Post.

func TestPostIsTheRowsBehind(t *testing.T) {
	l := of(0, 0, -200, 0, 0, 2, -8, 0, 2, 0, 70, 30, 2, 2, 8, 0, 4, 0, 0, 100)
	for name, c := range map[string]struct {
		p    []ledger.Posting
		want []api.Row
	}{
		"none":                      {nil, l},
		"none, of a list":           {[]ledger.Posting{}, l},
		"of nothing":                {by(2, 0, 0, 0), l},
		"of nothing, where none is": {by(3, 0, 0, 0, 0, 7, 0, 0, 1, 1, 0, 0), l},
		"free":                      {by(2, 0, -70, 0, 4, 0, 70, 0), of(0, 0, -200, 0, 0, 2, -8, 0, 2, 0, 0, 30, 2, 2, 8, 0, 4, 0, 70, 100)},
		"held":                      {by(2, 0, 0, -30, 4, 0, 0, 30), of(0, 0, -200, 0, 0, 2, -8, 0, 2, 0, 70, 0, 2, 2, 8, 0, 4, 0, 0, 130)},
		"held to free":              {by(4, 0, 0, -100, 2, 0, 100, 0), of(0, 0, -200, 0, 0, 2, -8, 0, 2, 0, 170, 30, 2, 2, 8, 0)},
		"within a row":              {by(2, 0, -70, 70), of(0, 0, -200, 0, 0, 2, -8, 0, 2, 0, 0, 100, 2, 2, 8, 0, 4, 0, 0, 100)},
		"from outside":              {by(0, 0, -5, 0, 2, 0, 2, 3), of(0, 0, -205, 0, 0, 2, -8, 0, 2, 0, 72, 33, 2, 2, 8, 0, 4, 0, 0, 100)},
		"to outside":                {by(0, 0, 170, 0, 2, 0, -70, 0, 4, 0, 0, -100), of(0, 0, -30, 0, 0, 2, -8, 0, 2, 0, 0, 30, 2, 2, 8, 0)},
		"all to outside":            {by(0, 0, 200, 0, 2, 0, -70, -30, 4, 0, 0, -100, 0, 2, 8, 0, 2, 2, -8, 0), nil},
		"a new row ahead":           {by(1, 0, 1, 0, 2, 0, -1, 0), of(0, 0, -200, 0, 0, 2, -8, 0, 1, 0, 1, 0, 2, 0, 69, 30, 2, 2, 8, 0, 4, 0, 0, 100)},
		"a new row between":         {by(3, 0, 0, 1, 2, 0, -1, 0), of(0, 0, -200, 0, 0, 2, -8, 0, 2, 0, 69, 30, 2, 2, 8, 0, 3, 0, 0, 1, 4, 0, 0, 100)},
		"new rows between assets":   {by(0, 1, -9, 0, 2, 1, 9, 0), of(0, 0, -200, 0, 0, 1, -9, 0, 0, 2, -8, 0, 2, 0, 70, 30, 2, 1, 9, 0, 2, 2, 8, 0, 4, 0, 0, 100)},
		"a new row behind":          {by(2, 2, -8, 0, maxAccts, 2, 8, 0), of(0, 0, -200, 0, 0, 2, -8, 0, 2, 0, 70, 30, 4, 0, 0, 100, maxAccts, 2, 8, 0)},
		"of the last asset":         {by(maxAccts, maxInsts, 0, 3, 0, maxInsts, -3, 0), of(0, 0, -200, 0, 0, 2, -8, 0, 0, maxInsts, -3, 0, 2, 0, 70, 30, 2, 2, 8, 0, 4, 0, 0, 100, maxAccts, maxInsts, 0, 3)},
		"a row gone":                {by(2, 2, -8, 0, 0, 2, 8, 0), of(0, 0, -200, 0, 2, 0, 70, 30, 4, 0, 0, 100)},
		"a row gone, of held":       {by(4, 0, 0, -100, 0, 0, 100, 0), of(0, 0, -100, 0, 0, 2, -8, 0, 2, 0, 70, 30, 2, 2, 8, 0)},
		"below 0 on the way":        {by(2, 0, -71, 0, 4, 0, 71, 0, 2, 0, 1, 0, 4, 0, -1, 0), of(0, 0, -200, 0, 0, 2, -8, 0, 2, 0, 0, 30, 2, 2, 8, 0, 4, 0, 70, 100)},
		"below 0 on the way, held":  {by(4, 0, 0, -101, 2, 0, 101, 0, 4, 0, 0, 101, 2, 0, -101, 0), l},
		"made and gone":             {by(1, 5, -3, 0, 3, 5, 3, 0, 1, 5, 3, 0, 3, 5, -3, 0), l},
		"above on the way":          {by(2, 0, maxAmount, 0, 4, 0, -maxAmount, 0, 2, 0, -maxAmount, 0, 4, 0, maxAmount, 0), l},
		"several of one":            {by(2, 0, -1, 0, 2, 0, -2, 0, 2, 0, 0, -3, 4, 0, 6, 0), of(0, 0, -200, 0, 0, 2, -8, 0, 2, 0, 67, 27, 2, 2, 8, 0, 4, 0, 6, 100)},
		"two assets":                {by(2, 0, -10, 0, 2, 2, 3, 0, 4, 0, 10, 0, 4, 2, 0, 1, 0, 2, -4, 0), of(0, 0, -200, 0, 0, 2, -12, 0, 2, 0, 60, 30, 2, 2, 11, 0, 4, 0, 10, 100, 4, 2, 0, 1)},
	} {
		if _, e := slowPost(l, c.p); e != api.OK {
			t.Errorf("%s: %d", name, e)
		}
		posts(t, name, l, c.p, c.want, api.OK)
	}
}

func TestPostUpToMaxAmountAndNotOneMore(t *testing.T) {
	for name, c := range map[string]struct {
		l    []api.Row
		p    []ledger.Posting
		want []api.Row
		e    api.Errno
	}{
		"just as much":              {nil, by(0, 0, -maxAmount, 0, 1, 0, maxAmount, 0), of(0, 0, -maxAmount, 0, 1, 0, maxAmount, 0), api.OK},
		"just as much held":         {nil, by(0, 0, -maxAmount, 0, 1, 0, 0, maxAmount), of(0, 0, -maxAmount, 0, 1, 0, 0, maxAmount), api.OK},
		"just as much, of both":     {nil, by(0, 0, -maxAmount, 0, 1, 0, maxAmount-7, 7), of(0, 0, -maxAmount, 0, 1, 0, maxAmount-7, 7), api.OK},
		"one more, in two":          {nil, by(0, 0, -maxAmount, 0, 1, 0, maxAmount, 0, 0, 0, -1, 0, 1, 0, 1, 0), nil, api.ErrOver},
		"one more, in two, held":    {nil, by(0, 0, -maxAmount, 0, 1, 0, 0, maxAmount, 0, 0, -1, 0, 1, 0, 0, 1), nil, api.ErrOver},
		"one more, of both":         {nil, by(0, 0, -maxAmount, 0, 0, 0, -1, 0, 1, 0, maxAmount, 1), nil, api.ErrOver},
		"to what there is":          {of(0, 0, -5, 0, 1, 0, 3, 2), by(0, 0, 5-maxAmount, 0, 1, 0, maxAmount-5, 0), of(0, 0, -maxAmount, 0, 1, 0, maxAmount-2, 2), api.OK},
		"to what there is, held":    {of(0, 0, -5, 0, 1, 0, 3, 2), by(0, 0, 5-maxAmount, 0, 1, 0, 0, maxAmount-5), of(0, 0, -maxAmount, 0, 1, 0, 3, maxAmount-3), api.OK},
		"one more than that":        {of(0, 0, -5, 0, 1, 0, 3, 2), by(0, 0, 4-maxAmount, 0, 1, 0, maxAmount-4, 0), nil, api.ErrOver},
		"one more than that, held":  {of(0, 0, -5, 0, 1, 0, 3, 2), by(0, 0, 4-maxAmount, 0, 1, 0, 0, maxAmount-4), nil, api.ErrOver},
		"from one that has as much": {of(0, 0, -maxAmount, 0, 1, 0, maxAmount, 0), by(1, 0, -maxAmount, 0, 2, 0, 0, maxAmount), of(0, 0, -maxAmount, 0, 2, 0, 0, maxAmount), api.OK},
		"within one that has":       {of(0, 0, -maxAmount, 0, 1, 0, maxAmount, 0), by(1, 0, -maxAmount, maxAmount), of(0, 0, -maxAmount, 0, 1, 0, 0, maxAmount), api.OK},
		"one more to one that has":  {of(0, 0, -maxAmount, 0, 1, 0, maxAmount, 0), by(0, 0, -1, 0, 1, 0, 0, 1), nil, api.ErrOver},
		"of another asset":          {of(0, 0, -maxAmount, 0, 1, 0, maxAmount, 0), by(0, 1, -maxAmount, 0, 1, 1, maxAmount, 0), of(0, 0, -maxAmount, 0, 0, 1, -maxAmount, 0, 1, 0, maxAmount, 0, 1, 1, maxAmount, 0), api.OK},
		"account 0 has no bound":    {of(0, 0, -maxAmount, 0, 1, 0, maxAmount, 0), by(0, 0, -maxAmount, 0, 2, 0, maxAmount, 0), of(0, 0, -2*maxAmount, 0, 1, 0, maxAmount, 0, 2, 0, maxAmount, 0), api.OK},
		"all that there is":         {of(0, 0, -5, 0, 1, 0, 3, 2), by(0, 0, 5, 0, 1, 0, -3, -2), nil, api.OK},
		"one more free":             {of(0, 0, -5, 0, 1, 0, 3, 2), by(0, 0, 4, 0, 1, 0, -4, 0), nil, api.ErrFunds},
		"one more free, held more":  {of(0, 0, -5, 0, 1, 0, 3, 2), by(1, 0, -4, 4), nil, api.ErrFunds},
		"one more held":             {of(0, 0, -5, 0, 1, 0, 3, 2), by(0, 0, 3, 0, 1, 0, 0, -3), nil, api.ErrFunds},
		"one more held, free more":  {of(0, 0, -5, 0, 1, 0, 3, 2), by(1, 0, 3, -3), nil, api.ErrFunds},
		"of one that has nothing":   {nil, by(0, 0, 1, 0, 1, 0, -1, 0), nil, api.ErrFunds},
		"held of such a one":        {nil, by(0, 0, 1, 0, 1, 0, 0, -1), nil, api.ErrFunds},
		"of another asset's":        {of(0, 0, -5, 0, 1, 0, 3, 2), by(0, 1, 1, 0, 1, 1, -1, 0), nil, api.ErrFunds},
		"of another one's":          {of(0, 0, -5, 0, 1, 0, 3, 2), by(2, 0, -1, 0, 1, 0, 1, 0), nil, api.ErrFunds},
		"account 0 would be above":  {of(0, 0, -5, 0, 1, 0, 3, 2), by(0, 0, maxAmount, 0, 1, 0, -maxAmount, 0), nil, api.ErrFunds},
		"the least there may be":    {of(0, 0, -5, 0, 1, 0, 3, 2), by(1, 0, -maxAmount, maxAmount), nil, api.ErrFunds},
	} {
		if l, e := slowPost(c.l, c.p); !slices.Equal(l, c.want) || e != c.e {
			t.Errorf("%s: %v, %d", name, l, e)
		}
		posts(t, name, c.l, c.p, c.want, c.e)
	}
}

// noPostings are those that may not be posted, whatever there is.
func noPostings() map[string][]ledger.Posting {
	const least, greatest = math.MinInt64, math.MaxInt64
	return map[string][]ledger.Posting{
		"one alone":                      by(1, 0, 5, 0),
		"one alone, held":                by(1, 0, 0, 5),
		"one alone, less":                by(1, 0, -5, 0),
		"one alone, of account 0":        by(0, 0, -5, 0),
		"one too many":                   by(0, 0, -5, 0, 1, 0, 6, 0),
		"one too few":                    by(0, 0, -5, 0, 1, 0, 4, 0),
		"one too many held":              by(0, 0, -5, 0, 1, 0, 5, 1),
		"0 together, but of two assets":  by(0, 0, -5, 0, 1, 1, 5, 0),
		"0 of the first, not of another": by(0, 0, -5, 0, 1, 0, 5, 0, 1, maxInsts, 1, 0),
		"account -1":                     by(-1, 0, -5, 0, 1, 0, 5, 0),
		"account -1, of nothing":         by(-1, 0, 0, 0),
		"account one beyond":             by(0, 0, -5, 0, maxAccts+1, 0, 5, 0),
		"account one beyond, of nothing": by(maxAccts+1, 0, 0, 0),
		"the greatest account":           by(0, 0, -5, 0, greatest, 0, 5, 0),
		"the least account":              by(least, 0, -5, 0, 1, 0, 5, 0),
		"asset -1":                       by(0, -1, -5, 0, 1, -1, 5, 0),
		"asset -1, of nothing":           by(1, -1, 0, 0),
		"asset one beyond":               by(0, maxInsts+1, -5, 0, 1, maxInsts+1, 5, 0),
		"asset one beyond, of nothing":   by(1, maxInsts+1, 0, 0),
		"the greatest asset":             by(0, greatest, -5, 0, 1, greatest, 5, 0),
		"the least asset":                by(0, least, -5, 0, 1, least, 5, 0),
		"free one beyond":                by(0, 0, -maxAmount, 0, 0, 0, -1, 0, 1, 0, maxAmount+1, 0),
		"held one beyond":                by(0, 0, -maxAmount, 0, 0, 0, -1, 0, 1, 0, 0, maxAmount+1),
		"free one beyond, below":         by(0, 0, -maxAmount-1, 0, 1, 0, maxAmount, 1),
		"held one beyond, below":         by(1, 0, maxAmount, 0, 1, 0, 1, -maxAmount-1),
		"one beyond, in one":             by(1, 0, maxAmount+1, -maxAmount-1),
		"one beyond, in one, turned":     by(1, 0, -maxAmount-1, maxAmount+1),
		"the greatest, in one":           by(1, 0, greatest, -greatest),
		"held of account 0":              by(0, 0, 0, -5, 1, 0, 5, 0),
		"held of account 0, in one":      by(0, 0, -5, 5),
		"held of account 0, there, back": by(0, 0, 0, -5, 0, 0, 0, 5),
		"the least, twice":               by(1, 0, least, least),
		"the least, of two":              by(0, 0, least, 0, 1, 0, least, 0),
		"the greatest, and two":          by(1, 0, greatest, greatest, 0, 0, 2, 0),
		"the least, and the greatest":    by(0, 0, least, 0, 1, 0, greatest, 1),
		"the greatest, alone":            by(1, 0, greatest, 0),
		"too far, alone":                 by(1, 0, maxTotal+1, 0),
		"too far below, alone":           by(0, 0, -maxTotal-1, 0),
		"too far, and not 0, in many":    slices.Repeat(by(1, 0, maxAmount, maxAmount), maxPostings),
	}
}

func TestPostingsThereCantBeAreErrArg(t *testing.T) {
	l := of(0, 0, -200, 0, 0, 2, -8, 0, 1, 0, 70, 30, 1, 2, 8, 0, 4, 0, 0, 100)
	for name, p := range noPostings() {
		posts(t, name, l, p, nil, api.ErrArg)
		posts(t, name+", of no rows", nil, p, nil, api.ErrArg)
		if len(p) == maxPostings {
			continue
		}
		// Wherever it stands among others.
		rest := by(1, 0, -1, 0, 4, 0, 1, 0)
		posts(t, name+", first", l, slices.Concat(p, rest), nil, api.ErrArg)
		posts(t, name+", last", l, slices.Concat(rest, p), nil, api.ErrArg)
		turned := slices.Concat(rest[:1], p, rest[1:])
		slices.Reverse(turned)
		posts(t, name+", between", l, turned, nil, api.ErrArg)
	}
}

func TestPostOfAsManyAsThereMayBe(t *testing.T) {
	pair := by(0, 0, -3, 0, 1, 0, 1, 2)
	for _, n := range []int{31, 32} {
		want := of(0, 0, -3*int64(n), 0, 1, 0, int64(n), 2*int64(n))
		posts(t, "pairs", nil, slices.Repeat(pair, n), want, api.OK)
	}
	most := slices.Repeat(pair, 32)
	for _, more := range [][]ledger.Posting{by(1, 0, 0, 0), by(1, 0, 1, 0), by(-1, 0, 0, 0), most, slices.Repeat(pair, 1<<12)} {
		posts(t, "one more, and more", nil, slices.Concat(most, more), nil, api.ErrTooLarge)
	}
	nothing := slices.Repeat(by(5, 5, 0, 0), maxPostings)
	posts(t, "of nothing", nil, nothing, nil, api.OK)
	posts(t, "of nothing, one more", nil, append(nothing, ledger.Posting{}), nil, api.ErrTooLarge)
	// As great as there may be, each of another account.
	var great []ledger.Posting
	var inside []api.Row
	for acct := 1; acct <= 32; acct++ {
		great = append(great, by(0, 7, -maxAmount, 0, int64(acct), 7, maxAmount, 0)...)
		inside = append(inside, api.Row{Acct: acct, Asset: 7, Free: maxAmount})
	}
	posts(t, "great ones", nil, great, balanced(inside), api.OK)
}

func TestTheFirstErrorOfPostCounts(t *testing.T) {
	l := of(0, 0, -maxAmount-5, 0, 1, 0, maxAmount, 0, 2, 0, 5, 0)
	form := of(0, 0, -maxAmount-5, 0, 2, 0, 5, 0, 1, 0, maxAmount, 0)
	large := slices.Repeat(by(-1, 99, 7, 7), maxPostings+1)
	arg := by(2, 0, -6, 0, 1, 0, 6, 0, 1, 0, 1, 0)
	funds := by(2, 0, -6, 0, 1, 0, 6, 0)
	over := by(2, 0, -5, 0, 1, 0, 5, 0)
	for _, p := range [][]ledger.Posting{nil, large, arg, funds, over, by(2, 0, -5, 0, 3, 0, 5, 0)} {
		posts(t, "rows that may not be", form, p, nil, api.ErrForm)
	}
	posts(t, "too many, and none that may be", l, large, nil, api.ErrTooLarge)
	posts(t, "too many, and not so much there", l, slices.Repeat(funds, maxPostings), nil, api.ErrTooLarge)
	posts(t, "too many, and too much", l, slices.Repeat(over, maxPostings), nil, api.ErrTooLarge)
	posts(t, "too much, not so much there, and not 0", l, arg, nil, api.ErrArg)
	posts(t, "not so much there, and too much", l, funds, nil, api.ErrFunds)
	posts(t, "too much", l, over, nil, api.ErrOver)
	// Whichever one stands first, and is said first.
	turned := of(0, 0, -maxAmount-5, 0, 1, 0, 5, 0, 2, 0, maxAmount, 0)
	for _, p := range [][]ledger.Posting{by(1, 0, -6, 0, 2, 0, 6, 0), by(2, 0, 6, 0, 1, 0, -6, 0)} {
		posts(t, "too much behind not so much there", turned, p, nil, api.ErrFunds)
	}
	posts(t, "of one, too much and not so much there", of(0, 0, -5, 0, 1, 0, 5, 0), by(1, 0, maxAmount, -1, 0, 0, 1-maxAmount, 0), nil, api.ErrFunds)
}

func TestPostOfRowsThatMayNotBeIsErrForm(t *testing.T) {
	for name, l := range noSome() {
		posts(t, name, l, nil, nil, api.ErrForm)
		posts(t, name, l, by(0, 0, -1, 0, 1, 0, 1, 0), nil, api.ErrForm)
	}
	// Nor if they would be right behind it.
	posts(t, "put right", of(1, 0, 5, 0), by(0, 0, -5, 0), nil, api.ErrForm)
	posts(t, "put right", of(0, 0, -5, 0, 1, 0, -1, 6), by(1, 0, 1, -1), nil, api.ErrForm)
}

// wrongly changes one thing of postings.
func wrongly(d *dice, p []ledger.Posting) []ledger.Posting {
	p = slices.Clone(p)
	if len(p) == 0 {
		return []ledger.Posting{{Acct: d.below(3) - 1, Asset: d.below(3) - 1, Free: int64(d.below(3) - 1), Held: int64(d.below(3) - 1)}}
	}
	x, o := &p[d.below(len(p))], &p[d.below(len(p))]
	switch d.below(6) {
	case 0:
		x.Acct = from(d, -1, 0, 1, 2, maxAccts, maxAccts+1)
	case 1:
		x.Asset = from(d, -1, 0, 1, maxInsts, maxInsts+1)
	case 2:
		x.Free += from(d, 1, -1, maxAmount, -maxAmount, d.number())
	case 3:
		x.Held += from(d, 1, -1, maxAmount, -maxAmount, d.number())
	case 4:
		n := d.upTo(maxAmount)
		x.Free -= n
		x.Held += n
	case 5:
		n := d.upTo(maxAmount)
		x.Free -= n
		o.Free += n
	}
	return p
}

func TestPostOfAnyRowsAndPostings(t *testing.T) {
	d := dice(5)
	seen := map[api.Errno]int{}
	for range 30000 {
		l := d.rows()
		if !d.often(20) {
			l = nearly(&d, l)
		}
		p := d.postings(l)
		if !d.often(4) {
			p = wrongly(&d, p)
		}
		want, wrong := slowPost(l, p)
		posts(t, "Post", l, p, want, wrong)
		seen[wrong]++
	}
	for _, e := range []api.Errno{api.OK, api.ErrForm, api.ErrArg, api.ErrFunds, api.ErrOver} {
		if seen[e] < 500 {
			t.Errorf("%d: %d times", e, seen[e])
		}
	}
}

// P15.3: Move, Pay, Hold, Release.

// goes is Move, or Pay.
type goes func(l []api.Row, from, to, asset int, n int64) ([]api.Row, api.Errno)

// turns is Hold, or Release.
type turns func(l []api.Row, acct, asset int, n int64) ([]api.Row, api.Errno)

// moves says what is wrong with what one of them answers.
func moves(t *testing.T, name string, do goes, l []api.Row, from, to, asset int, n int64, want []api.Row, wrong api.Errno) {
	t.Helper()
	answers(t, name, l, func(l []api.Row) ([]api.Row, api.Errno) { return do(l, from, to, asset, n) }, want, wrong)
}

// holds says what is wrong with what one of them answers.
func holds(t *testing.T, name string, do turns, l []api.Row, acct, asset int, n int64, want []api.Row, wrong api.Errno) {
	t.Helper()
	answers(t, name, l, func(l []api.Row) ([]api.Row, api.Errno) { return do(l, acct, asset, n) }, want, wrong)
}

func TestTheExamples(t *testing.T) {
	begun := of(0, 0, -100, 0, 1, 0, 100, 0)
	moves(t, "Move of 100", ledger.Move, nil, 0, 1, 0, 100, begun, api.OK)
	held := of(0, 0, -100, 0, 1, 0, 70, 30)
	holds(t, "Hold of 30", ledger.Hold, begun, 1, 0, 30, held, api.OK)
	paid := of(0, 0, -100, 0, 1, 0, 70, 10, 2, 0, 20, 0)
	moves(t, "Pay of 20", ledger.Pay, held, 1, 2, 0, 20, paid, api.OK)
	moves(t, "Move of 21", ledger.Move, paid, 2, 0, 0, 21, nil, api.ErrFunds)
	moves(t, "Move of 20", ledger.Move, paid, 2, 0, 0, 20, of(0, 0, -80, 0, 1, 0, 70, 10), api.OK)
	most := of(0, 0, -maxAmount, 0, 1, 0, maxAmount, 0)
	moves(t, "Move of MaxAmount", ledger.Move, nil, 0, 1, 0, maxAmount, most, api.OK)
	moves(t, "and of 1 more", ledger.Move, most, 0, 1, 0, 1, nil, api.ErrOver)
	posts(t, "Post of 5 to 1 alone", nil, by(1, 0, 5, 0), nil, api.ErrArg)
}

// gone is what Move, or Pay, answers when something goes.
type gone struct {
	from, to, asset int
	n               int64
	want            []api.Row
	e               api.Errno
}

// going says what is wrong with what Pay answers, or Move.
func going(t *testing.T, pay bool, all map[string]gone) {
	t.Helper()
	do := goes(ledger.Move)
	if pay {
		do = ledger.Pay
	}
	l := of(0, 0, -100, 0, 0, 3, -9, 0, 1, 0, 70, 30, 1, 3, 4, 5)
	for name, c := range all {
		if l, e := slowGo(pay, l, c.from, c.to, c.asset, c.n); !slices.Equal(l, c.want) || e != c.e {
			t.Errorf("%s: %v, %d", name, l, e)
		}
		moves(t, name, do, l, c.from, c.to, c.asset, c.n, c.want, c.e)
	}
}

func TestMoveGoesFromFreeToFree(t *testing.T) {
	going(t, false, map[string]gone{
		"some":                 {1, 2, 0, 20, of(0, 0, -100, 0, 0, 3, -9, 0, 1, 0, 50, 30, 1, 3, 4, 5, 2, 0, 20, 0), api.OK},
		"one":                  {1, 2, 0, 1, of(0, 0, -100, 0, 0, 3, -9, 0, 1, 0, 69, 30, 1, 3, 4, 5, 2, 0, 1, 0), api.OK},
		"all that there is":    {1, 2, 0, 70, of(0, 0, -100, 0, 0, 3, -9, 0, 1, 0, 0, 30, 1, 3, 4, 5, 2, 0, 70, 0), api.OK},
		"one more":             {1, 2, 0, 71, nil, api.ErrFunds},
		"of an instrument":     {1, maxAccts, 3, 4, of(0, 0, -100, 0, 0, 3, -9, 0, 1, 0, 70, 30, 1, 3, 0, 5, maxAccts, 3, 4, 0), api.OK},
		"one more of it":       {1, maxAccts, 3, 5, nil, api.ErrFunds},
		"from outside":         {0, 1, 0, 5, of(0, 0, -105, 0, 0, 3, -9, 0, 1, 0, 75, 30, 1, 3, 4, 5), api.OK},
		"from outside, new":    {0, 1, maxInsts, 5, of(0, 0, -100, 0, 0, 3, -9, 0, 0, maxInsts, -5, 0, 1, 0, 70, 30, 1, 3, 4, 5, 1, maxInsts, 5, 0), api.OK},
		"from outside, most":   {0, 1, 0, maxAmount - 100, of(0, 0, -maxAmount, 0, 0, 3, -9, 0, 1, 0, maxAmount-30, 30, 1, 3, 4, 5), api.OK},
		"one more than that":   {0, 1, 0, maxAmount - 99, nil, api.ErrOver},
		"MaxAmount":            {0, 1, 0, maxAmount, nil, api.ErrOver},
		"MaxAmount, to a new":  {0, 2, 0, maxAmount, of(0, 0, -100-maxAmount, 0, 0, 3, -9, 0, 1, 0, 70, 30, 1, 3, 4, 5, 2, 0, maxAmount, 0), api.OK},
		"to outside":           {1, 0, 0, 70, of(0, 0, -30, 0, 0, 3, -9, 0, 1, 0, 0, 30, 1, 3, 4, 5), api.OK},
		"one more to outside":  {1, 0, 0, 71, nil, api.ErrFunds},
		"from who has nothing": {2, 1, 0, 1, nil, api.ErrFunds},
		"of what nobody has":   {1, 2, 1, 1, nil, api.ErrFunds},
		"to outside, new":      {1, 0, 1, 1, nil, api.ErrFunds},
		"MaxAmount of less":    {1, 2, 0, maxAmount, nil, api.ErrFunds},
	})
}

func TestPayGoesFromHeldToFree(t *testing.T) {
	going(t, true, map[string]gone{
		"some":                 {1, 2, 0, 20, of(0, 0, -100, 0, 0, 3, -9, 0, 1, 0, 70, 10, 1, 3, 4, 5, 2, 0, 20, 0), api.OK},
		"one":                  {1, 2, 0, 1, of(0, 0, -100, 0, 0, 3, -9, 0, 1, 0, 70, 29, 1, 3, 4, 5, 2, 0, 1, 0), api.OK},
		"all that there is":    {1, 2, 0, 30, of(0, 0, -100, 0, 0, 3, -9, 0, 1, 0, 70, 0, 1, 3, 4, 5, 2, 0, 30, 0), api.OK},
		"one more":             {1, 2, 0, 31, nil, api.ErrFunds},
		"of an instrument":     {1, maxAccts, 3, 5, of(0, 0, -100, 0, 0, 3, -9, 0, 1, 0, 70, 30, 1, 3, 4, 0, maxAccts, 3, 5, 0), api.OK},
		"one more of it":       {1, maxAccts, 3, 6, nil, api.ErrFunds},
		"to outside":           {1, 0, 0, 30, of(0, 0, -70, 0, 0, 3, -9, 0, 1, 0, 70, 0, 1, 3, 4, 5), api.OK},
		"one more to outside":  {1, 0, 0, 31, nil, api.ErrFunds},
		"from outside":         {0, 1, 0, 1, nil, api.ErrArg},
		"from outside, much":   {0, 1, 0, maxAmount, nil, api.ErrArg},
		"from who has nothing": {2, 1, 0, 1, nil, api.ErrFunds},
		"of what nobody has":   {1, 2, 1, 1, nil, api.ErrFunds},
		"MaxAmount of less":    {1, 2, 0, maxAmount, nil, api.ErrFunds},
	})
	most := of(0, 0, -maxAmount, 0, 1, 0, 0, maxAmount)
	moves(t, "Pay of MaxAmount", ledger.Pay, most, 1, 2, 0, maxAmount, of(0, 0, -maxAmount, 0, 2, 0, maxAmount, 0), api.OK)
	two := of(0, 0, -2*maxAmount, 0, 1, 0, maxAmount-3, 3, 2, 0, 0, maxAmount)
	moves(t, "Pay to who has MaxAmount", ledger.Pay, two, 2, 1, 0, 1, nil, api.ErrOver)
	moves(t, "Pay, turned", ledger.Pay, two, 1, 2, 0, 3, nil, api.ErrOver)
	less := of(0, 0, 1-2*maxAmount, 0, 1, 0, maxAmount-4, 3, 2, 0, 0, maxAmount)
	moves(t, "Pay up to MaxAmount", ledger.Pay, less, 2, 1, 0, 1, of(0, 0, 1-2*maxAmount, 0, 1, 0, maxAmount-3, 3, 2, 0, 0, maxAmount-1), api.OK)
	moves(t, "Pay of one more", ledger.Pay, less, 2, 1, 0, 2, nil, api.ErrOver)
}

func TestHoldAndRelease(t *testing.T) {
	l := of(0, 0, -100, 0, 0, 3, -9, 0, 1, 0, 70, 30, maxAccts, 3, 4, 5)
	// as is the rows, when their third and fourth one are so.
	as := func(free, held, free3, held3 int64) []api.Row {
		return of(0, 0, -100, 0, 0, 3, -9, 0, 1, 0, free, held, maxAccts, 3, free3, held3)
	}
	for name, c := range map[string]struct {
		acct, asset int
		n           int64
		held        []api.Row
		hold        api.Errno
		freed       []api.Row
		release     api.Errno
	}{
		"one":                {1, 0, 1, as(69, 31, 4, 5), api.OK, as(71, 29, 4, 5), api.OK},
		"some":               {1, 0, 29, as(41, 59, 4, 5), api.OK, as(99, 1, 4, 5), api.OK},
		"all that is held":   {1, 0, 30, as(40, 60, 4, 5), api.OK, as(100, 0, 4, 5), api.OK},
		"one more":           {1, 0, 31, as(39, 61, 4, 5), api.OK, nil, api.ErrFunds},
		"all that is free":   {1, 0, 70, as(0, 100, 4, 5), api.OK, nil, api.ErrFunds},
		"one more than that": {1, 0, 71, nil, api.ErrFunds, nil, api.ErrFunds},
		"of an instrument":   {maxAccts, 3, 4, as(70, 30, 0, 9), api.OK, as(70, 30, 8, 1), api.OK},
		"one more of it":     {maxAccts, 3, 5, nil, api.ErrFunds, as(70, 30, 9, 0), api.OK},
		"of nothing":         {2, 0, 1, nil, api.ErrFunds, nil, api.ErrFunds},
		"of what nobody has": {1, maxInsts, 1, nil, api.ErrFunds, nil, api.ErrFunds},
		"MaxAmount of less":  {1, 0, maxAmount, nil, api.ErrFunds, nil, api.ErrFunds},
		"of account 0":       {0, 0, 1, nil, api.ErrArg, nil, api.ErrArg},
	} {
		holds(t, "Hold, "+name, ledger.Hold, l, c.acct, c.asset, c.n, c.held, c.hold)
		holds(t, "Release, "+name, ledger.Release, l, c.acct, c.asset, c.n, c.freed, c.release)
	}
	free, held := of(0, 0, -maxAmount, 0, 1, 0, maxAmount, 0), of(0, 0, -maxAmount, 0, 1, 0, 0, maxAmount)
	holds(t, "Hold of MaxAmount", ledger.Hold, free, 1, 0, maxAmount, held, api.OK)
	holds(t, "Release of MaxAmount", ledger.Release, held, 1, 0, maxAmount, free, api.OK)
	holds(t, "Hold of none", ledger.Hold, held, 1, 0, 1, nil, api.ErrFunds)
	holds(t, "Release of none", ledger.Release, free, 1, 0, 1, nil, api.ErrFunds)
}

// noNumbers are amounts that can't be.
func noNumbers() []int64 {
	return []int64{0, -1, -70, -maxAmount, -maxAmount - 1, maxAmount + 1, maxTotal, math.MaxInt64, math.MinInt64, math.MinInt64 + 1}
}

// noAccts are accounts that can't be, noAssets assets.
func noAccts() []int  { return []int{-1, -2, maxAccts + 1, math.MaxInt64, math.MinInt64} }
func noAssets() []int { return []int{-1, -2, maxInsts + 1, math.MaxInt64, math.MinInt64} }

func TestMoveAndPayOfWhatCantBeAreErrArg(t *testing.T) {
	l := of(0, 0, -200, 0, 1, 0, 70, 30, 2, 0, 70, 30)
	for name, do := range map[string]goes{"Move": ledger.Move, "Pay": ledger.Pay} {
		refused := func(from, to, asset int, n int64) {
			t.Helper()
			moves(t, name, do, l, from, to, asset, n, nil, api.ErrArg)
			moves(t, name+" of none", do, nil, from, to, asset, n, nil, api.ErrArg)
		}
		for _, n := range noNumbers() {
			refused(1, 2, 0, n)
			refused(2, 1, 0, n)
			refused(1, 0, 0, n)
			refused(0, 1, 0, n)
		}
		for _, acct := range noAccts() {
			refused(acct, 1, 0, 1)
			refused(1, acct, 0, 1)
			refused(0, acct, 0, 1)
			refused(acct, 0, 0, 1)
			refused(acct, acct, 0, 1)
		}
		for _, asset := range noAssets() {
			refused(1, 2, asset, 1)
			refused(1, 0, asset, 1)
			refused(0, 1, asset, 1)
		}
		for _, acct := range []int{0, 1, 2, 3, maxAccts} {
			refused(acct, acct, 0, 1)
			refused(acct, acct, maxInsts, 1)
		}
	}
}

func TestHoldAndReleaseOfWhatCantBeAreErrArg(t *testing.T) {
	l := of(0, 0, -200, 0, 1, 0, 70, 30, 2, 0, 70, 30)
	for name, do := range map[string]turns{"Hold": ledger.Hold, "Release": ledger.Release} {
		refused := func(acct, asset int, n int64) {
			t.Helper()
			holds(t, name, do, l, acct, asset, n, nil, api.ErrArg)
			holds(t, name+" of none", do, nil, acct, asset, n, nil, api.ErrArg)
		}
		for _, n := range noNumbers() {
			refused(1, 0, n)
			refused(2, 0, n)
		}
		for _, acct := range append(noAccts(), 0) {
			refused(acct, 0, 1)
			refused(acct, maxInsts, 1)
		}
		for _, asset := range noAssets() {
			refused(1, asset, 1)
		}
	}
}

func TestRowsThatMayNotBeAreErrFormAheadOfAll(t *testing.T) {
	for name, l := range noSome() {
		for _, n := range []int64{1, 0, maxAmount, maxAmount + 1, math.MinInt64} {
			for _, acct := range []int{-1, 0, 1, 2, maxAccts + 1} {
				moves(t, "Move, "+name, ledger.Move, l, acct, 1, 0, n, nil, api.ErrForm)
				moves(t, "Pay, "+name, ledger.Pay, l, acct, 1, 0, n, nil, api.ErrForm)
				holds(t, "Hold, "+name, ledger.Hold, l, acct, 0, n, nil, api.ErrForm)
				holds(t, "Release, "+name, ledger.Release, l, acct, 0, n, nil, api.ErrForm)
			}
		}
	}
}

func TestWhatThereIsNotComesAheadOfWhatIsTooMuch(t *testing.T) {
	l := of(0, 0, -maxAmount-9, 0, 1, 0, maxAmount-5, 5, 2, 0, 4, 5)
	moves(t, "Move", ledger.Move, l, 2, 1, 0, 5, nil, api.ErrFunds)
	moves(t, "Move of what there is", ledger.Move, l, 2, 1, 0, 4, nil, api.ErrOver)
	moves(t, "Pay", ledger.Pay, l, 2, 1, 0, 6, nil, api.ErrFunds)
	moves(t, "Pay of what there is", ledger.Pay, l, 2, 1, 0, 5, nil, api.ErrOver)
	moves(t, "Move, ErrArg ahead of that", ledger.Move, l, 2, 1, maxInsts+1, 5, nil, api.ErrArg)
	moves(t, "Pay, ErrArg ahead of that", ledger.Pay, l, 2, 1, -1, 6, nil, api.ErrArg)
	holds(t, "Hold, ErrArg ahead of that", ledger.Hold, l, 1, 0, maxAmount+1, nil, api.ErrArg)
	holds(t, "Release, ErrArg ahead of that", ledger.Release, l, 1, 0, maxAmount+1, nil, api.ErrArg)
}

func TestMovePayHoldReleaseOfAny(t *testing.T) {
	d := dice(6)
	seen := map[api.Errno]int{}
	for range 20000 {
		l := d.rows()
		if !d.often(20) {
			l = nearly(&d, l)
		}
		one, asset := d.place()
		other, _ := d.place()
		n := from(&d, 1, d.upTo(maxAmount), maxAmount-ledger.Total(l, other, asset), maxAmount)
		if len(l) > 0 && d.often(3) {
			r := from(&d, l...)
			one, asset, n = r.Acct, r.Asset, from(&d, r.Free, r.Held, r.Free+1, r.Held+1, -r.Free)
		}
		one, other = from(&d, one, one, one, one, 0), from(&d, other, other, other, other, 0)
		if !d.often(10) {
			one, other, asset, n = from(&d, one, -1, maxAccts+1), from(&d, other, -1, maxAccts+1), from(&d, asset, -1, maxInsts+1), from(&d, n, 0, maxAmount+1, d.number())
		}
		want, wrong := slowGo(false, l, one, other, asset, n)
		moves(t, "Move", ledger.Move, l, one, other, asset, n, want, wrong)
		seen[wrong]++
		want, wrong = slowGo(true, l, one, other, asset, n)
		moves(t, "Pay", ledger.Pay, l, one, other, asset, n, want, wrong)
		seen[wrong]++
		want, wrong = slowTurn(false, l, one, asset, n)
		holds(t, "Hold", ledger.Hold, l, one, asset, n, want, wrong)
		seen[wrong]++
		want, wrong = slowTurn(true, l, one, asset, n)
		holds(t, "Release", ledger.Release, l, one, asset, n, want, wrong)
		seen[wrong]++
	}
	for _, e := range []api.Errno{api.OK, api.ErrForm, api.ErrArg, api.ErrFunds, api.ErrOver} {
		if seen[e] < 300 {
			t.Errorf("%d: %d times", e, seen[e])
		}
	}
}

// P15.4.

// more is by how much postings make a total more.
func more(p []ledger.Posting, acct, asset int) int64 {
	n := int64(0)
	for _, x := range p {
		if x.Acct == acct && x.Asset == asset {
			n += x.Free + x.Held
		}
	}
	return n
}

func TestNothingIsLostOrMade(t *testing.T) {
	d := dice(7)
	var l []api.Row
	done := 0
	for range 6000 {
		p := d.postings(l)
		if !d.often(3) {
			// Now and then something comes from outside, so that there is something.
			acct, asset := d.place()
			n := d.upTo(maxAmount) / 100
			p = append(p, by(0, int64(asset), -n, 0, int64(acct), int64(asset), n, 0)...)
		}
		was := slices.Clone(l)
		behind, e := ledger.Post(l, p)
		if !slices.Equal(l, was) {
			t.Fatalf("%v became %v", was, l)
		}
		if e != api.OK {
			continue
		}
		done++
		if !ledger.May(behind) || !slowMay(behind) {
			t.Fatalf("Post(%v, %v): %v", l, p, behind)
		}
		for asset := range maxInsts + 1 {
			if ledger.Sum(behind, asset) != 0 {
				t.Fatalf("%v: %d of %d", behind, ledger.Sum(behind, asset), asset)
			}
			for acct := range maxAccts + 1 {
				want := ledger.Total(l, acct, asset) + more(p, acct, asset)
				if got := ledger.Total(behind, acct, asset); got != want {
					t.Fatalf("Post(%v, %v): %d has %d of %d, not %d", l, p, acct, got, asset, want)
				}
			}
		}
		l = behind
	}
	if done < 1000 || len(l) < 10 {
		t.Errorf("%d, %v", done, l)
	}
}

// P15.5.

// undo is what takes postings back.
func undo(p []ledger.Posting) []ledger.Posting {
	var back []ledger.Posting
	for _, x := range p {
		back = append(back, ledger.Posting{Acct: x.Acct, Asset: x.Asset, Free: -x.Free, Held: -x.Held})
	}
	return back
}

func TestWhatIsPostedTheOtherWayIsAsIfNothingWas(t *testing.T) {
	d := dice(8)
	done := 0
	for range 10000 {
		l := d.rows()
		p := d.postings(l)
		behind, e := ledger.Post(l, p)
		if e != api.OK {
			continue
		}
		done++
		back := undo(p)
		d.mix(back)
		if got := posted(t, behind, back); !ledger.Same(got, l) || !slices.Equal(got, l) {
			t.Errorf("Post(%v, %v) and back: %v", l, p, got)
		}
	}
	if done < 2000 {
		t.Errorf("%d", done)
	}
	l := full()
	all := by(0, 3, maxAmount, 0, 1, 3, -laid(l)[1][3].free, -laid(l)[1][3].held)
	if got := posted(t, posted(t, l, all), undo(all)); !slices.Equal(got, l) {
		t.Errorf("%v", got)
	}
}

// P15.6.

// together are postings with those of one account and asset put into one.
func together(p []ledger.Posting) []ledger.Posting {
	var told []ledger.Posting
	for _, x := range p {
		at := slices.IndexFunc(told, func(o ledger.Posting) bool { return o.Acct == x.Acct && o.Asset == x.Asset })
		if at < 0 {
			told = append(told, x)
			continue
		}
		told[at].Free += x.Free
		told[at].Held += x.Held
	}
	return told
}

func TestWhatIsPostedIsTheSameInWhateverRowAndPutTogether(t *testing.T) {
	d := dice(9)
	one := 0
	for range 10000 {
		l := d.rows()
		p := d.postings(l)
		want, wrong := ledger.Post(l, p)
		other := slices.Clone(p)
		d.mix(other)
		posts(t, "in another row", l, other, want, wrong)
		slices.Reverse(other)
		posts(t, "turned about", l, other, want, wrong)
		all := together(p)
		if len(all) < len(p) && slowMayPost(all) {
			one++
			posts(t, "put together", l, all, want, wrong)
		}
	}
	if one < 1000 {
		t.Errorf("%d were put together", one)
	}
}

func TestPostedInTwoPartsItIsTheSame(t *testing.T) {
	d := dice(10)
	both := 0
	for range 20000 {
		l := d.rows()
		first, second := d.postings(l), d.postings(l)
		half, e := ledger.Post(l, first)
		if e != api.OK || len(first) == 0 || len(second) == 0 {
			continue
		}
		if want, e := ledger.Post(half, second); e == api.OK {
			both++
			posts(t, "both parts", l, slices.Concat(first, second), want, api.OK)
			posts(t, "both parts, turned about", l, slices.Concat(second, first), want, api.OK)
		}
	}
	if both < 2000 {
		t.Errorf("%d", both)
	}
	// In one part too where only both together are OK.
	l := of(0, 0, -5, 0, 1, 0, 5, 0)
	first, second := by(1, 0, -6, 0, 2, 0, 6, 0), by(0, 0, -1, 0, 1, 0, 1, 0)
	posts(t, "the first part alone", l, first, nil, api.ErrFunds)
	posts(t, "both", l, slices.Concat(first, second), of(0, 0, -6, 0, 2, 0, 6, 0), api.OK)
}

// P15.7.

func TestByWayOfWhatIsHeld(t *testing.T) {
	d := dice(11)
	var done [2]int
	for range 20000 {
		l := d.rows()
		one, asset := d.place()
		if len(l) > 0 {
			r := from(&d, l...)
			one, asset = max(r.Acct, 1), r.Asset
		}
		other, _ := d.place()
		other *= d.below(3)
		n := from(&d, 1, ledger.Get(l, one, asset).Free, d.upTo(maxAmount))
		held, e := ledger.Hold(l, one, asset, n)
		want, wrong := ledger.Move(l, one, other, asset, n)
		if e != api.OK {
			if wrong == api.OK {
				t.Errorf("%v: %d of %d's %d moves, and isn't held: %d", l, n, one, asset, e)
			}
			continue
		}
		done[0]++
		got, e := ledger.Pay(held, one, other, asset, n)
		if e != wrong || !slices.Equal(got, want) {
			t.Errorf("%v: Hold and Pay of %d: %v, %d, not %v, %d", l, n, got, e, want, wrong)
		}
		if wrong == api.OK {
			done[1]++
		}
		if got, e := ledger.Release(held, one, asset, n); e != api.OK || !slices.Equal(got, l) {
			t.Errorf("%v: Hold and Release of %d: %v, %d", l, n, got, e)
		}
	}
	if done[0] < 3000 || done[1] < 1000 {
		t.Errorf("%v", done)
	}
}

func TestWhoHasNoneOfItPostedIsAsBefore(t *testing.T) {
	d := dice(12)
	done := 0
	for range 10000 {
		l := d.rows()
		p := d.postings(l)
		behind, e := ledger.Post(l, p)
		if e != api.OK || len(p) == 0 {
			continue
		}
		done++
		for acct := range maxAccts + 1 {
			if slices.ContainsFunc(p, func(x ledger.Posting) bool { return x.Acct == acct }) {
				continue
			}
			if was, is := ledger.Of(l, acct), ledger.Of(behind, acct); !slices.Equal(was, is) {
				t.Errorf("Post(%v, %v): %v became %v", l, p, was, is)
			}
		}
		for asset := range maxInsts + 1 {
			for _, r := range behind {
				posted := slices.ContainsFunc(p, func(x ledger.Posting) bool { return x.Acct == r.Acct && x.Asset == asset })
				if was, is := ledger.Get(l, r.Acct, asset), ledger.Get(behind, r.Acct, asset); !posted && was != is {
					t.Errorf("Post(%v, %v): %v became %v", l, p, was, is)
				}
			}
		}
	}
	if done < 2000 {
		t.Errorf("%d", done)
	}
}
