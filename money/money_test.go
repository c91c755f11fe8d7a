package money_test

import (
	"math"
	"math/big"
	"slices"
	"strings"
	"testing"

	"souk/api"
	"souk/money"
)

// dice tells numbers that look like any, the same ones in each run.
type dice uint64

func (d *dice) next() uint64 {
	*d ^= *d << 13
	*d ^= *d >> 7
	*d ^= *d << 17
	return uint64(*d) * 0x2545F4914F6CDD1D
}

func (d *dice) below(n int) int { return int(d.next() % uint64(n)) }

// number tells one of any length of bits, above 0 or below.
func (d *dice) number() int64 { return int64(d.next()) >> d.below(64) }

// amount tells one from 0 to MaxTotal.
func (d *dice) amount() int64 { return int64(d.next() >> (2 + d.below(62))) }

// edges are numbers where something begins or ends.
func edges() []int64 {
	l := []int64{0, 1, 9, 10, 99, 100, 101, 999, 1000, 1001, 9999, 10000, 10001}
	l = append(l, math.MaxInt64-1, math.MaxInt64)
	for _, bit := range []int{20, 30, 31, 32, 33, 50, 61, 62} {
		n := int64(1) << bit
		l = append(l, n-1, n, n+1)
	}
	for _, n := range slices.Clone(l[1:]) {
		l = append(l, -n)
	}
	return append(l, math.MinInt64)
}

// amounts are those of the edges that are from 0 to MaxTotal.
func amounts() []int64 {
	return slices.DeleteFunc(edges(), func(n int64) bool { return n < 0 || n > api.MaxTotal })
}

func wide(n int64) *big.Int { return big.NewInt(n) }

// told is what a call answers whose number, as mathematics has it, is n.
func told(n *big.Int) (int64, api.Errno) {
	if n.CmpAbs(wide(api.MaxTotal)) > 0 {
		return 0, api.ErrOver
	}
	return n.Int64(), api.OK
}

func slowSum(l []int64) (int64, api.Errno) {
	sum := new(big.Int)
	for _, n := range l {
		sum.Add(sum, wide(n))
	}
	return told(sum)
}

// slowShow is an amount's text by the words of the document.
func slowShow(n *big.Int) string {
	sign := ""
	if n.Sign() < 0 {
		sign = "-"
	}
	whole, part := new(big.Int).QuoRem(new(big.Int).Abs(n), wide(100), new(big.Int))
	return sign + whole.String() + "." + strings.Repeat("0", 2-len(part.String())) + part.String()
}

// is says what is wrong with an answer.
func is(t *testing.T, name string, got int64, e api.Errno, want int64, wrong api.Errno) {
	t.Helper()
	if got != want || e != wrong {
		t.Errorf("%s: %d, %v, not %d, %v", name, got, e, want, wrong)
	}
}

// right tells what a call answers that must be right.
func right(t *testing.T) func(n int64, e api.Errno) int64 {
	return func(n int64, e api.Errno) int64 {
		t.Helper()
		if e != api.OK {
			t.Errorf("%v", e)
		}
		return n
	}
}

// P3.1: Add, Sub.

func TestAddIsTheSum(t *testing.T) {
	for _, c := range []struct {
		a, b, want int64
		e          api.Errno
	}{
		{0, 0, 0, api.OK},
		{2, 3, 5, api.OK},
		{2, -3, -1, api.OK},
		{-2, -3, -5, api.OK},
		{api.MaxTotal, 0, api.MaxTotal, api.OK},
		{api.MaxTotal, 1, 0, api.ErrOver},
		{-api.MaxTotal, 0, -api.MaxTotal, api.OK},
		{-api.MaxTotal, -1, 0, api.ErrOver},
		{api.MaxTotal, -api.MaxTotal, 0, api.OK},
		{api.MaxTotal, api.MaxTotal, 0, api.ErrOver},
		{api.MaxTotal + 1, -1, api.MaxTotal, api.OK},
		{math.MaxInt64, math.MinInt64, -1, api.OK},
		{math.MaxInt64, -api.MaxTotal, api.MaxTotal - 1, api.OK},
		{math.MinInt64, api.MaxTotal, -api.MaxTotal, api.OK},
		{math.MinInt64, api.MaxTotal - 1, 0, api.ErrOver},
		{math.MaxInt64, math.MaxInt64, 0, api.ErrOver},
		{math.MinInt64, math.MinInt64, 0, api.ErrOver},
		{math.MaxInt64, 0, 0, api.ErrOver},
		{math.MinInt64, 0, 0, api.ErrOver},
	} {
		got, e := money.Add(c.a, c.b)
		is(t, "Add", got, e, c.want, c.e)
		got, e = money.Add(c.b, c.a)
		is(t, "Add turned about", got, e, c.want, c.e)
	}
}

func TestSubIsTheDifference(t *testing.T) {
	for _, c := range []struct {
		a, b, want int64
		e          api.Errno
	}{
		{0, 0, 0, api.OK},
		{2, 3, -1, api.OK},
		{3, 2, 1, api.OK},
		{2, -3, 5, api.OK},
		{0, api.MaxTotal, -api.MaxTotal, api.OK},
		{-1, api.MaxTotal, 0, api.ErrOver},
		{0, -api.MaxTotal, api.MaxTotal, api.OK},
		{1, -api.MaxTotal, 0, api.ErrOver},
		{api.MaxTotal, -1, 0, api.ErrOver},
		{api.MaxTotal + 1, 1, api.MaxTotal, api.OK},
		{0, math.MinInt64, 0, api.ErrOver},
		{-1, math.MinInt64, 0, api.ErrOver},
		{-api.MaxTotal, math.MinInt64, api.MaxTotal, api.OK},
		{-api.MaxTotal + 1, math.MinInt64, 0, api.ErrOver},
		{math.MinInt64, math.MinInt64, 0, api.OK},
		{math.MaxInt64, math.MaxInt64, 0, api.OK},
		{math.MinInt64, math.MaxInt64, 0, api.ErrOver},
		{math.MaxInt64, math.MinInt64, 0, api.ErrOver},
		{math.MinInt64, 1, 0, api.ErrOver},
	} {
		got, e := money.Sub(c.a, c.b)
		is(t, "Sub", got, e, c.want, c.e)
	}
}

func TestAddAndSubOfAnyNumbers(t *testing.T) {
	look := func(a, b int64) {
		want, wrong := told(new(big.Int).Add(wide(a), wide(b)))
		got, e := money.Add(a, b)
		is(t, "Add", got, e, want, wrong)
		want, wrong = told(new(big.Int).Sub(wide(a), wide(b)))
		got, e = money.Sub(a, b)
		is(t, "Sub", got, e, want, wrong)
	}
	for _, a := range edges() {
		for _, b := range edges() {
			look(a, b)
		}
	}
	d := dice(1)
	for range 5000 {
		look(d.number(), d.number())
	}
}

// P3.1: Sum.

func TestSumIsThatOfAll(t *testing.T) {
	for _, c := range []struct {
		name string
		l    []int64
		want int64
		e    api.Errno
	}{
		{"of no list", nil, 0, api.OK},
		{"of nothing", []int64{}, 0, api.OK},
		{"of one", []int64{-7}, -7, api.OK},
		{"of some", []int64{1, 20, 300, -4000}, -3679, api.OK},
		{"the greatest", []int64{api.MaxTotal}, api.MaxTotal, api.OK},
		{"one more", []int64{api.MaxTotal + 1}, 0, api.ErrOver},
		{"the least", []int64{-api.MaxTotal}, -api.MaxTotal, api.OK},
		{"one less", []int64{-api.MaxTotal - 1}, 0, api.ErrOver},
		{"too far on the way alone", []int64{math.MaxInt64, 1, math.MinInt64}, 0, api.OK},
		{"too far on the way, below", []int64{math.MinInt64, math.MinInt64, math.MaxInt64, math.MaxInt64}, -2, api.OK},
		{"all the way round, and nothing left", []int64{math.MinInt64, math.MinInt64}, 0, api.ErrOver},
		{"all the way round, above", []int64{math.MaxInt64, math.MaxInt64, 2}, 0, api.ErrOver},
		{"all the way round, and one", []int64{math.MaxInt64, math.MaxInt64, 3}, 0, api.ErrOver},
	} {
		got, e := money.Sum(c.l...)
		is(t, c.name, got, e, c.want, c.e)
	}
}

func TestSumOfManyThatAreTooFarOnTheWay(t *testing.T) {
	const many = 100000
	l := append(slices.Repeat([]int64{math.MaxInt64}, many), slices.Repeat([]int64{-math.MaxInt64}, many)...)
	got, e := money.Sum(append(l, 42)...)
	is(t, "there and back", got, e, 42, api.OK)
	got, e = money.Sum(append(l, api.MaxTotal, 1)...)
	is(t, "there and not back", got, e, 0, api.ErrOver)
	l = slices.Repeat([]int64{math.MinInt64}, 2*many)
	got, e = money.Sum(l...)
	is(t, "far below", got, e, 0, api.ErrOver)
	l = append(l, slices.Repeat([]int64{math.MaxInt64}, 2*many)...)
	got, e = money.Sum(l...)
	is(t, "below, and back", got, e, -2*many, api.OK)
}

func TestSumOfAnyNumbersAndItsListStays(t *testing.T) {
	d := dice(2)
	ends := edges()
	for range 3000 {
		l := make([]int64, d.below(12))
		for i := range l {
			l[i] = d.number()
			if d.below(2) == 0 {
				l[i] = ends[d.below(len(ends))]
			}
		}
		was := slices.Clone(l)
		want, wrong := slowSum(l)
		got, e := money.Sum(l...)
		is(t, "Sum", got, e, want, wrong)
		if !slices.Equal(l, was) {
			t.Errorf("%v became %v", was, l)
		}
	}
}

// P3.1: Cap.

// slowCap is Cap by the words of the document.
func slowCap(a, b int64) int64 {
	sum := new(big.Int)
	for _, n := range []int64{a, b} {
		if n > api.MaxTotal {
			n = api.MaxTotal
		}
		if n > 0 {
			sum.Add(sum, wide(n))
		}
	}
	if sum.Cmp(wide(api.MaxTotal)) > 0 {
		return api.MaxTotal
	}
	return sum.Int64()
}

func TestCapIsTheSumMaxTotalAtMost(t *testing.T) {
	for _, c := range []struct{ a, b, want int64 }{
		{0, 0, 0},
		{3, 4, 7},
		{-3, 7, 7},
		{-3, -4, 0},
		{api.MaxTotal, 7, api.MaxTotal},
		{api.MaxTotal, -7, api.MaxTotal},
		{api.MaxTotal - 1, 0, api.MaxTotal - 1},
		{api.MaxTotal - 1, 1, api.MaxTotal},
		{api.MaxTotal - 1, 2, api.MaxTotal},
		{api.MaxTotal, api.MaxTotal, api.MaxTotal},
		{api.MaxTotal + 1, -1, api.MaxTotal},
		{math.MaxInt64, math.MinInt64, api.MaxTotal},
		{math.MaxInt64, math.MaxInt64, api.MaxTotal},
		{math.MinInt64, math.MinInt64, 0},
		{math.MinInt64, 5, 5},
	} {
		if got := money.Cap(c.a, c.b); got != c.want {
			t.Errorf("%d, %d: %d, not %d", c.a, c.b, got, c.want)
		}
	}
	for _, a := range edges() {
		for _, b := range edges() {
			if got, want := money.Cap(a, b), slowCap(a, b); got != want {
				t.Errorf("%d, %d: %d, not %d", a, b, got, want)
			}
		}
	}
}

// P3.2: Mul, Fee.

func TestMulIsTheProduct(t *testing.T) {
	for _, c := range []struct {
		name       string
		p, q, want int64
		e          api.Errno
	}{
		{"some", 12, 34, 408, api.OK},
		{"nothing", 0, 0, 0, api.OK},
		{"nothing of the greatest", 0, math.MaxInt64, 0, api.OK},
		{"a price by a quantity", api.MaxPrice, api.MaxQty, 1 << 50, api.OK},
		{"MaxTotal", 1 << 31, 1 << 31, api.MaxTotal, api.OK},
		{"MaxTotal by 1", api.MaxTotal, 1, api.MaxTotal, api.OK},
		{"one more by 1", api.MaxTotal + 1, 1, 0, api.ErrOver},
		{"2^63", 1 << 32, 1 << 31, 0, api.ErrOver},
		{"2^64", 1 << 32, 1 << 32, 0, api.ErrOver},
		{"2^64, by 2", 1 << 62, 4, 0, api.ErrOver},
		{"2^64 and a little", 1<<32 + 1, 1 << 32, 0, api.ErrOver},
		{"the greatest by 1", math.MaxInt64, 1, 0, api.ErrOver},
		{"the greatest by itself", math.MaxInt64, math.MaxInt64, 0, api.ErrOver},
		{"below 0 by nothing", -1, 0, 0, api.ErrArg},
		{"the least by nothing", math.MinInt64, 0, 0, api.ErrArg},
		{"below 0 by 1", -1, 1, 0, api.ErrArg},
		{"both below 0", -2, -3, 0, api.ErrArg},
		{"both the least", math.MinInt64, math.MinInt64, 0, api.ErrArg},
		{"below 0, ahead of too far", -1, math.MaxInt64, 0, api.ErrArg},
		{"the least by the greatest", math.MinInt64, math.MaxInt64, 0, api.ErrArg},
	} {
		got, e := money.Mul(c.p, c.q)
		is(t, c.name, got, e, c.want, c.e)
		got, e = money.Mul(c.q, c.p)
		is(t, c.name+", turned about", got, e, c.want, c.e)
	}
}

func TestMulOfAnyNumbers(t *testing.T) {
	look := func(p, q int64) {
		want, wrong := told(new(big.Int).Mul(wide(p), wide(q)))
		if p < 0 || q < 0 {
			want, wrong = 0, api.ErrArg
		}
		got, e := money.Mul(p, q)
		is(t, "Mul", got, e, want, wrong)
	}
	for _, p := range edges() {
		for _, q := range edges() {
			look(p, q)
		}
	}
	d := dice(3)
	for range 5000 {
		p := d.amount()
		look(p, d.number())
		if p > 0 { // about the greatest that may be
			look(p, api.MaxTotal/p)
			look(p, api.MaxTotal/p+1)
		}
	}
}

func TestFeeIsNTimesBBy10000RoundedDown(t *testing.T) {
	for _, c := range []struct {
		name       string
		n, b, want int64
		e          api.Errno
	}{
		{"a hundredth", 100, 100, 1, api.OK},
		{"a hundredth of less", 99, 100, 0, api.OK},
		{"a hundredth of more", 10199, 100, 101, api.OK},
		{"a quarter of that", 10199, 25, 25, api.OK},
		{"nearly one", 9999, 1, 0, api.OK},
		{"one", 10000, 1, 1, api.OK},
		{"of nothing", 0, 1000, 0, api.OK},
		{"of nothing, by nothing", 0, 0, 0, api.OK},
		{"by nothing", api.MaxTotal, 0, 0, api.OK},
		{"the greatest", api.MaxTotal, 1000, api.MaxTotal / 10, api.OK},
		{"the greatest amount", api.MaxAmount, 1000, 1 << 50 / 10, api.OK},
		{"below 0", -1, 10, 0, api.ErrArg},
		{"the least", math.MinInt64, 0, 0, api.ErrArg},
		{"by less than 0", 100, -1, 0, api.ErrArg},
		{"by the least", 100, math.MinInt64, 0, api.ErrArg},
		{"by 1001", 100, 1001, 0, api.ErrArg},
		{"of nothing, by 1001", 0, 1001, 0, api.ErrArg},
		{"by the greatest", 100, math.MaxInt64, 0, api.ErrArg},
		{"one more than the greatest", api.MaxTotal + 1, 1, 0, api.ErrOver},
		{"too far, by nothing", api.MaxTotal + 1, 0, 0, api.ErrOver},
		{"too far, by 1000", math.MaxInt64, 1000, 0, api.ErrOver},
		{"by 1001, ahead of too far", math.MaxInt64, 1001, 0, api.ErrArg},
		{"by less than 0, ahead of too far", api.MaxTotal + 1, -1, 0, api.ErrArg},
		{"too far below 0", -api.MaxTotal - 1, 1, 0, api.ErrArg},
	} {
		got, e := money.Fee(c.n, c.b)
		is(t, c.name, got, e, c.want, c.e)
	}
}

func TestFeeOfAnyAmount(t *testing.T) {
	look := func(n, b int64) {
		want := new(big.Int).Mul(wide(n), wide(b))
		got, e := money.Fee(n, b)
		is(t, "Fee", got, e, want.Div(want, wide(10000)).Int64(), api.OK)
	}
	for _, n := range amounts() {
		for b := range int64(1001) {
			look(n, b)
		}
	}
	d := dice(4)
	for range 5000 {
		look(d.amount(), int64(d.below(1001)))
	}
}

// P3.3: Show, Parse.

func TestShowIsAnAmountsText(t *testing.T) {
	for n, want := range map[int64]string{
		0: "0.00", 1: "0.01", 9: "0.09", 10: "0.10", 99: "0.99", 100: "1.00", 105: "1.05", 1234: "12.34", 100000: "1000.00",
		-1: "-0.01", -5: "-0.05", -50: "-0.50", -99: "-0.99", -100: "-1.00", -1234: "-12.34",
		api.MaxTotal: "46116860184273879.04", -api.MaxTotal: "-46116860184273879.04",
		math.MaxInt64: "92233720368547758.07", math.MinInt64: "-92233720368547758.08",
	} {
		if got := money.Show(n); got != want {
			t.Errorf("%d: %q, not %q", n, got, want)
		}
	}
	l := edges()
	d := dice(5)
	for range 3000 {
		l = append(l, d.number())
	}
	for _, n := range l {
		if got, want := money.Show(n), slowShow(wide(n)); got != want {
			t.Errorf("%d: %q, not %q", n, got, want)
		}
	}
}

func TestParseIsTheAmountWhoseTextItIs(t *testing.T) {
	long := strings.Repeat("9", 100000)
	for _, c := range []struct {
		s    string
		want int64
		e    api.Errno
	}{
		{"0.00", 0, api.OK},
		{"0.05", 5, api.OK},
		{"-0.05", -5, api.OK},
		{"-0.50", -50, api.OK},
		{"12.34", 1234, api.OK},
		{"-12.34", -1234, api.OK},
		{"10.00", 1000, api.OK},
		{"46116860184273879.04", api.MaxTotal, api.OK},
		{"46116860184273879.05", 0, api.ErrOver},
		{"-46116860184273879.04", -api.MaxTotal, api.OK},
		{"-46116860184273879.05", 0, api.ErrOver},
		{"92233720368547758.07", 0, api.ErrOver},
		{"92233720368547758.08", 0, api.ErrOver},
		{"-92233720368547758.08", 0, api.ErrOver},
		{"-92233720368547758.09", 0, api.ErrOver},
		{"184467440737095516.16", 0, api.ErrOver},
		{"184467440737095516.21", 0, api.ErrOver},
		{"-184467440737095516.17", 0, api.ErrOver},
		{"99999999999999999999.00", 0, api.ErrOver},
		{"-99999999999999999999.00", 0, api.ErrOver},
		{long + ".00", 0, api.ErrOver},
		{"-" + long + ".99", 0, api.ErrOver},
	} {
		got, e := money.Parse(c.s)
		is(t, "Parse of "+c.s[:min(len(c.s), 30)], got, e, c.want, c.e)
	}
}

func TestParseRefusesWhatIsNoAmountsText(t *testing.T) {
	many := strings.Repeat("9", 30)
	for _, s := range []string{
		"", "-", ".", "-.", "1", "-1", "12", "123", "1.", "1.5", "-1.5", "1.500", "1.0000", "12.3", "12,34",
		"01.00", "-01.00", "00.00", "00.05", "000.00", "-00.05", "01.0", "-0.00", "-0.0",
		".05", "-.05", ".00", "-.00", "..00", "1..00", "1...", "1.0.", "1.00.", "1.00.00", ".1.00",
		"+1.00", "+0.00", "-+1.00", "+-1.00", "--1.00", "1-.00", "1.-5", "1.+5", "1.0-", "1.00-",
		" 1.00", "1.00 ", "1 .00", "1. 5", "1.00\n", "\x001.00", "1.00\x00",
		"a.00", "1.a0", "1.0a", "1a.00", "1e2.00", "0x1.00", "1_0.00", "1.0_", "1.e1", "NaN", "Inf", "1,000.00",
		"\u0661.00", "1.\u0660\u0660", "1.\u0660", "\uff11.00", "\u22121.00", "1\u00b7000", "\xff.00", "1.\xff\xff", "1.\x80\x80",
		"-\x00.00", "/.00", ":.00", "1.0/", "1.0:",
		// Of many digits too it is looked first whether it is an amount's text.
		many, many + ".", many + ".0", many + ".000", "0" + many + ".00", "-0" + many + ".00", "+" + many + ".00",
		many + "x.00", "x" + many + ".00", many + "_0.00", many + ".0x", many + ".00.00", many + " .00", many + ".00-", "--" + many + ".00",
	} {
		got, e := money.Parse(s)
		is(t, "Parse of "+s, got, e, 0, api.ErrForm)
	}
}

func TestParseOfTextsOfAFewSigns(t *testing.T) {
	// Of texts this short all those that are an amount's are shown by some
	// number of at most as many digits.
	shown := map[string]int64{}
	for n := int64(-10000); n <= 10000; n++ {
		shown[slowShow(wide(n))] = n
	}
	const signs = "0159-+._x "
	for size := range 6 {
		l := make([]byte, size)
		for at := range int(math.Pow(float64(len(signs)), float64(size))) {
			for i := range l {
				l[i] = signs[at%len(signs)]
				at /= len(signs)
			}
			want, ok := shown[string(l)]
			wrong := api.ErrForm
			if ok {
				wrong = api.OK
			}
			got, e := money.Parse(string(l))
			is(t, "Parse of "+string(l), got, e, want, wrong)
		}
	}
}

// P3.4.

func TestSumsAreTheSameInWhateverRow(t *testing.T) {
	d := dice(6)
	for range 2000 {
		l := make([]int64, d.below(9))
		for i := range l {
			l[i] = d.number()
		}
		want, wrong := money.Sum(l...)
		for i := range l {
			j := d.below(i + 1)
			l[i], l[j] = l[j], l[i]
		}
		got, e := money.Sum(l...)
		is(t, "in another row", got, e, want, wrong)
		slices.Sort(l)
		got, e = money.Sum(l...)
		is(t, "sorted", got, e, want, wrong)
	}
}

func TestTheSumOfTwoListsSumsIsThatOfBothTogether(t *testing.T) {
	d := dice(7)
	for range 3000 {
		l := make([]int64, d.below(9))
		for i := range l {
			l[i] = d.number()
		}
		cut := d.below(len(l) + 1)
		a, ea := money.Sum(l[:cut]...)
		b, eb := money.Sum(l[cut:]...)
		if ea != api.OK || eb != api.OK {
			continue
		}
		want, wrong := money.Sum(l...)
		got, e := money.Sum(a, b)
		is(t, "cut in two", got, e, want, wrong)
		got, e = money.Add(a, b)
		is(t, "cut in two, added", got, e, want, wrong)
	}
}

func TestWhatIsAddedTakenAwayLeavesWhatThereWas(t *testing.T) {
	look := func(a, b int64) {
		if sum, e := money.Add(a, b); e == api.OK && a >= -api.MaxTotal && a <= api.MaxTotal {
			got, e := money.Sub(sum, b)
			is(t, "added, taken away", got, e, a, api.OK)
		}
		if less, e := money.Sub(a, b); e == api.OK && a >= -api.MaxTotal && a <= api.MaxTotal {
			got, e := money.Add(less, b)
			is(t, "taken away, added", got, e, a, api.OK)
		}
	}
	for _, a := range edges() {
		for _, b := range edges() {
			look(a, b)
		}
	}
	d := dice(8)
	for range 3000 {
		look(d.number(), d.number())
	}
}

// P3.5.

func TestProducts(t *testing.T) {
	for _, p := range edges() {
		for _, q := range edges() {
			want, wrong := money.Mul(p, q)
			got, e := money.Mul(q, p)
			is(t, "turned about", got, e, want, wrong)
		}
	}
	for _, n := range amounts() {
		got, e := money.Mul(n, 1)
		is(t, "by 1", got, e, n, api.OK)
	}
	d := dice(9)
	for range 5000 {
		a, b, q := d.amount()/2, d.amount()/2, d.amount()
		want, wrong := money.Mul(right(t)(money.Add(a, b)), q)
		x, ex := money.Mul(a, q)
		y, ey := money.Mul(b, q)
		if ex == api.OK && ey == api.OK {
			got, e := money.Add(x, y)
			is(t, "of a sum", got, e, want, wrong)
		} else if wrong == api.OK {
			t.Errorf("%d and %d by %d: %v, %v, together %d", a, b, q, ex, ey, want)
		}
	}
}

// P3.6.

func TestFeesOfTwoAmountsAreThatOfTheirSumOrOneLess(t *testing.T) {
	less := 0
	look := func(m, n, b int64) {
		sum, e := money.Add(m, n)
		if e != api.OK {
			return
		}
		all := right(t)(money.Fee(sum, b))
		both := right(t)(money.Add(right(t)(money.Fee(m, b)), right(t)(money.Fee(n, b))))
		if both != all && both != all-1 {
			t.Errorf("%d and %d by %d: %d, together %d", m, n, b, both, all)
		}
		less += int(all - both)
	}
	for _, m := range amounts() {
		for _, n := range amounts() {
			for _, b := range []int64{0, 1, 25, 999, 1000} {
				look(m, n, b)
			}
		}
	}
	d := dice(10)
	for range 5000 {
		look(d.amount(), d.amount(), int64(d.below(1001)))
	}
	if less == 0 {
		t.Error("never one less")
	}
}

func TestAFeeIsATenthAtMostAndNoLessOfMore(t *testing.T) {
	look := func(n, more, b, above int64) {
		fee := right(t)(money.Fee(n, b))
		if fee < 0 || fee > n/10 {
			t.Errorf("%d by %d: %d", n, b, fee)
		}
		if got := right(t)(money.Fee(more, b)); got < fee {
			t.Errorf("%d by %d: %d, of %d: %d", n, b, fee, more, got)
		}
		if got := right(t)(money.Fee(n, above)); got < fee {
			t.Errorf("%d by %d: %d, by %d: %d", n, b, fee, above, got)
		}
		if got := right(t)(money.Fee(n, 0)); got != 0 {
			t.Errorf("%d by 0: %d", n, got)
		}
	}
	for _, n := range amounts() {
		for b := range int64(1000) {
			look(n, min(n+1, api.MaxTotal), b, b+1)
		}
		look(n, n, 1000, 1000)
	}
	d := dice(11)
	for range 3000 {
		m, n := d.amount(), d.amount()
		b, c := int64(d.below(1001)), int64(d.below(1001))
		look(min(m, n), max(m, n), min(b, c), max(b, c))
	}
}

// P3.7.

func TestWhatIsShownIsParsedAsItIs(t *testing.T) {
	look := func(n int64) {
		want, wrong := told(wide(n))
		got, e := money.Parse(money.Show(n))
		is(t, money.Show(n), got, e, want, wrong)
	}
	for _, n := range edges() {
		look(n)
	}
	for n := int64(-1000); n <= 1000; n++ {
		look(n)
	}
	d := dice(12)
	for range 5000 {
		look(d.number())
	}
}

func TestWhatIsParsedShownIsTheText(t *testing.T) {
	const signs = "000123456789..-"
	d := dice(13)
	parsed := 0
	for range 200000 {
		l := make([]byte, d.below(24))
		for i := range l {
			l[i] = signs[d.below(len(signs))]
		}
		if len(l) > 2 && d.below(4) > 0 {
			l[len(l)-3] = '.'
		}
		s := string(l)
		n, e := money.Parse(s)
		if e == api.OK {
			parsed++
			if got := money.Show(n); got != s {
				t.Errorf("%q: %d, %q", s, n, got)
			}
		}
	}
	if parsed < 1000 {
		t.Errorf("%d were parsed", parsed)
	}
}

// P3.8.

func TestCapped(t *testing.T) {
	look := func(a, b, c int64) {
		got := money.Cap(a, b)
		if turned := money.Cap(b, a); turned != got {
			t.Errorf("%d, %d: %d, turned about %d", a, b, got, turned)
		}
		if first, last := money.Cap(got, c), money.Cap(a, money.Cap(b, c)); first != last {
			t.Errorf("%d, %d, %d: %d, %d", a, b, c, first, last)
		}
		if a < 0 || b < 0 || a > api.MaxTotal || b > api.MaxTotal {
			return
		}
		if sum, e := money.Add(a, b); e == api.OK && got != sum {
			t.Errorf("%d, %d: %d, the sum is %d", a, b, got, sum)
		}
		if got < a || got < b {
			t.Errorf("%d, %d: %d is less", a, b, got)
		}
	}
	for _, a := range edges() {
		for _, b := range edges() {
			for _, c := range edges() {
				look(a, b, c)
			}
		}
	}
	d := dice(14)
	for range 3000 {
		look(d.number(), d.number(), d.number())
		look(d.amount(), d.amount(), d.amount())
	}
}
