package nat_test

import (
	"math"
	"math/big"
	"math/rand"
	"slices"
	"strings"
	"testing"

	"tinder/api"
	"tinder/nat"
)

// of is a Nat of just these digits, right or not.
func of(digits ...uint32) api.Nat { return api.Nat{Digits: digits} }

// worth is what a Nat stands for.
func worth(a api.Nat) *big.Int {
	x := new(big.Int)
	for _, d := range slices.Backward(a.Digits) {
		x.Or(x.Lsh(x, 32), big.NewInt(int64(d)))
	}
	return x
}

// check fails unless a number is right, and the one that is wanted.
func check(t *testing.T, got api.Nat, want *big.Int, what ...any) {
	t.Helper()
	if n := len(got.Digits); n > 0 && got.Digits[n-1] == 0 {
		t.Error("not right:", got, what)
	}
	if worth(got).Cmp(want) != 0 {
		t.Error("got", worth(got), "want", want, what)
	}
}

// zero fails unless a number is 0, without digits.
func zero(t *testing.T, got api.Nat, what ...any) {
	t.Helper()
	if len(got.Digits) != 0 {
		t.Error("not 0:", got, what)
	}
}

// samples are numbers about the ends of digits, right and not, and some of no special kind.
func samples() []api.Nat {
	l := []api.Nat{
		of(), {}, of(0), of(0, 0, 0), of(1), of(1, 0), of(2), of(5, 0, 0), of(9), of(10), of(math.MaxUint32), of(math.MaxUint32, 0),
		of(0, 1), of(1, 1), of(0, 0, 1), of(math.MaxUint32, math.MaxUint32), of(math.MaxUint32, math.MaxUint32, math.MaxUint32, 0),
		of(0, 0, 0, 1, 0, 0), of(999_999_999), of(1_000_000_000), of(math.MaxUint32-1, math.MaxUint32),
	}
	r := rand.New(rand.NewSource(1))
	for size := range 12 {
		a := api.Nat{}
		for range size {
			a.Digits = append(a.Digits, r.Uint32())
		}
		l = append(l, a)
	}
	return l
}

// TestRight: P1.1.
func TestRight(t *testing.T) {
	for _, a := range []api.Nat{{}, of(), of(1), of(0, 1), of(0, 0, 7), of(math.MaxUint32)} {
		if !nat.Right(a) {
			t.Error(a)
		}
	}
	for _, a := range []api.Nat{of(0), of(0, 0), of(1, 0), of(0, 1, 0), of(5, 0, 0)} {
		if nat.Right(a) {
			t.Error(a)
		}
	}
}

// TestOf: P1.1.
func TestOf(t *testing.T) {
	for _, n := range []uint64{0, 1, 9, 1<<32 - 1, 1 << 32, 1<<32 + 1, 1 << 63, math.MaxUint64} {
		check(t, nat.Of(n), new(big.Int).SetUint64(n), n)
	}
	if got := nat.Of(1 << 32).Digits; !slices.Equal(got, []uint32{0, 1}) {
		t.Error(got)
	}
}

// TestCmp: P1.1.
func TestCmp(t *testing.T) {
	for _, a := range samples() {
		for _, b := range samples() {
			if got, want := nat.Cmp(a, b), worth(a).Cmp(worth(b)); got != want {
				t.Error(a, b, got, want)
			}
		}
	}
	// A lower digit says nothing against a higher one.
	if nat.Cmp(of(1, 2), of(2, 1)) != 1 || nat.Cmp(of(2, 1), of(1, 2)) != -1 {
		t.Error("order of digits")
	}
}

// TestAdd: P1.2.
func TestAdd(t *testing.T) {
	zero(t, nat.Add())
	for _, a := range samples() {
		check(t, nat.Add(a), worth(a), a)
		for _, b := range samples() {
			want := new(big.Int).Add(worth(a), worth(b))
			check(t, nat.Add(a, b), want, a, b)
			check(t, nat.Add(a, b, a), want.Add(want, worth(a)), a, b, a)
		}
	}
	want := new(big.Int)
	for _, a := range samples() {
		want.Add(want, worth(a))
	}
	check(t, nat.Add(samples()...), want)
}

// TestAddCarries: P1.2, where a carry goes through all digits, and beyond them.
func TestAddCarries(t *testing.T) {
	full := slices.Repeat([]uint32{math.MaxUint32}, 50)
	want := new(big.Int).Lsh(big.NewInt(1), 50*32)
	check(t, nat.Add(of(full...), of(1)), want)
	check(t, nat.Add(of(1), of(full...)), want)
}

// TestMul: P1.2.
func TestMul(t *testing.T) {
	check(t, nat.Mul(), big.NewInt(1))
	for _, a := range samples() {
		check(t, nat.Mul(a), worth(a), a)
		zero(t, nat.Mul(a, of()), a)
		zero(t, nat.Mul(of(0, 0), a, a), a)
		for _, b := range samples() {
			want := new(big.Int).Mul(worth(a), worth(b))
			check(t, nat.Mul(a, b), want, a, b)
			check(t, nat.Mul(a, b, a), want.Mul(want, worth(a)), a, b, a)
		}
	}
}

// TestSub: P1.2.
func TestSub(t *testing.T) {
	for _, a := range samples() {
		for _, b := range samples() {
			got, ok := nat.Sub(a, b)
			if ok != (worth(a).Cmp(worth(b)) >= 0) {
				t.Error(a, b, ok)
			}
			if ok {
				check(t, got, new(big.Int).Sub(worth(a), worth(b)), a, b)
			} else {
				zero(t, got, a, b)
			}
		}
	}
	if got, ok := nat.Sub(of(1), of(2)); ok || len(got.Digits) > 0 {
		t.Error(got, ok)
	}
	// A borrow goes through all digits.
	top := append(make([]uint32, 50), 1)
	got, ok := nat.Sub(of(top...), of(1))
	if !ok || !slices.Equal(got.Digits, slices.Repeat([]uint32{math.MaxUint32}, 50)) {
		t.Error(got, ok)
	}
}

// TestPow: P1.3, within the limit.
func TestPow(t *testing.T) {
	for _, a := range samples() {
		for n := range 20 {
			got, e := nat.Pow(a, n)
			if e != api.OK {
				t.Error(a, n, e)
			}
			check(t, got, new(big.Int).Exp(worth(a), big.NewInt(int64(n)), nil), a, n)
		}
	}
	if got, _ := nat.Pow(of(2), 64); nat.Text(got) != "18446744073709551616" {
		t.Error(got)
	}
}

// TestPowOfZeroAndOne: P1.3, whatever the exponent.
func TestPowOfZeroAndOne(t *testing.T) {
	for _, n := range []int{0, 1, 2, 3, 1000, 1 << 40, math.MaxInt} {
		want := int64(0)
		if n == 0 {
			want = 1
		}
		for _, a := range []api.Nat{of(), of(0), of(0, 0)} {
			got, e := nat.Pow(a, n)
			check(t, got, big.NewInt(want), n)
			if e != api.OK {
				t.Error(n, e)
			}
		}
		for _, a := range []api.Nat{of(1), of(1, 0)} {
			got, e := nat.Pow(a, n)
			check(t, got, big.NewInt(1), n)
			if e != api.OK {
				t.Error(n, e)
			}
		}
	}
}

// TestPowAboutTheLimit: P1.3, from the greatest exponent that is taken to the first that is not.
func TestPowAboutTheLimit(t *testing.T) {
	bases := []api.Nat{of(2), of(3), of(10), of(math.MaxUint32), of(0, 1), of(1, 1), of(7, 7, 7, 0), of(slices.Repeat([]uint32{3}, 999)...), of(slices.Repeat([]uint32{math.MaxUint32}, 1000)...)}
	limit := new(big.Int).Lsh(big.NewInt(1), 32*api.MaxDigits)
	for _, a := range bases {
		last := 32 * api.MaxDigits / (worth(a).BitLen() - 1)
		want := new(big.Int).Exp(worth(a), big.NewInt(int64(last)), nil)
		for ; want.Cmp(limit) >= 0; last-- {
			want.Div(want, worth(a))
		}
		got, e := nat.Pow(a, last)
		check(t, got, want, len(a.Digits), last)
		if e != api.OK {
			t.Error(len(a.Digits), last, e)
		}
		for _, n := range []int{last + 1, last + 2, 2 * (last + 1), math.MaxInt} {
			got, e := nat.Pow(a, n)
			zero(t, got, n)
			if e != api.ErrLong {
				t.Error(len(a.Digits), n, e)
			}
		}
	}
}

// TestPowOfLong: P1.3, of numbers that are about the limit or above it themselves.
func TestPowOfLong(t *testing.T) {
	whole := of(slices.Repeat([]uint32{1}, api.MaxDigits)...)
	long := of(slices.Repeat([]uint32{1}, api.MaxDigits+1)...)
	padded := of(append(slices.Repeat([]uint32{1}, api.MaxDigits), 0, 0, 0)...)
	short := of(append([]uint32{1}, make([]uint32, 2*api.MaxDigits)...)...)
	for _, c := range []struct {
		a    api.Nat
		n    int
		want api.Nat
		e    api.Errno
	}{
		{whole, 0, of(1), api.OK},
		{whole, 1, whole, api.OK},
		{whole, 2, api.Nat{}, api.ErrLong},
		{padded, 1, whole, api.OK},
		{short, 5, of(1), api.OK},
		{long, 0, of(1), api.OK},
		{long, 1, api.Nat{}, api.ErrLong},
		{long, 2, api.Nat{}, api.ErrLong},
	} {
		got, e := nat.Pow(c.a, c.n)
		if e != c.e || !slices.Equal(got.Digits, c.want.Digits) {
			t.Error(len(c.a.Digits), c.n, e, len(got.Digits))
		}
	}
}

// TestPowErrors: P1.3, and that ErrArg comes ahead of ErrLong.
func TestPowErrors(t *testing.T) {
	long := of(slices.Repeat([]uint32{1}, api.MaxDigits+1)...)
	for _, a := range []api.Nat{of(), of(0), of(1), of(2), long} {
		for _, n := range []int{-1, -2, math.MinInt} {
			got, e := nat.Pow(a, n)
			zero(t, got, n)
			if e != api.ErrArg {
				t.Error(len(a.Digits), n, e)
			}
		}
	}
}

// TestText: P1.4, and P1.5, that a text is taken back.
func TestText(t *testing.T) {
	l := samples()
	for n := range 60 {
		ten, _ := nat.Pow(of(10), n)
		below, _ := nat.Sub(ten, of(1))
		l = append(l, ten, below, nat.Add(ten, of(1)))
	}
	l = append(l, of(slices.Repeat([]uint32{math.MaxUint32}, api.MaxDigits)...), of(append(make([]uint32, 700), 1)...))
	for _, a := range l {
		s := nat.Text(a)
		if want := worth(a).String(); s != want {
			t.Error("got", s, "want", want)
		}
		back, ok := nat.Parse(s)
		check(t, back, worth(a), s)
		if !ok {
			t.Error(s)
		}
	}
}

// TestParse: P1.4, of texts that a number has.
func TestParse(t *testing.T) {
	for _, s := range []string{"0", "1", "7", "10", "100", "999999999", "1000000000", "1000000001", "4294967295", "4294967296", "18446744073709551616", "1" + strings.Repeat("0", 500), strings.Repeat("9", 20000)} {
		a, ok := nat.Parse(s)
		want, _ := new(big.Int).SetString(s, 10)
		check(t, a, want, s)
		if !ok || nat.Text(a) != s {
			t.Error(s, ok)
		}
	}
}

// TestParseOfNone: P1.4, of texts that no number has.
func TestParseOfNone(t *testing.T) {
	for _, s := range []string{
		"", " ", "00", "01", "007", "0000000000000", "-1", "-0", "+1", "+0", " 1", "1 ", "1\n", "\x001", "1\x00", "x", "0x", "0x1", "1x", "a", "1_000", "1,000", "1.0", "1e3", "/", ":", "12/", "1:2",
		"\u0661", "\uff11", "1\u0661", "\xff", "1000000000 ", " 000000001", "1-00000000", "1+00000000", "12345678901234567890x", "x12345678901234567890", "1234567890x1234567890", "0" + strings.Repeat("9", 30),
	} {
		a, ok := nat.Parse(s)
		zero(t, a, s)
		if ok {
			t.Errorf("%q", s)
		}
	}
}

// same fails unless two numbers are, digit by digit.
func same(t *testing.T, a, b api.Nat, what ...any) {
	t.Helper()
	if !slices.Equal(a.Digits, b.Digits) {
		t.Error(a, b, what)
	}
}

// TestLaws: P1.5.
func TestLaws(t *testing.T) {
	l := samples()
	for i, a := range l {
		for j, b := range l {
			same(t, nat.Add(a, b), nat.Add(b, a), a, b)
			same(t, nat.Mul(a, b), nat.Mul(b, a), a, b)
			c := l[(3*i+5*j)%len(l)]
			same(t, nat.Add(nat.Add(a, b), c), nat.Add(a, nat.Add(b, c)), a, b, c)
			same(t, nat.Add(nat.Add(a, b), c), nat.Add(c, b, a), a, b, c)
			same(t, nat.Mul(nat.Mul(a, b), c), nat.Mul(a, nat.Mul(b, c)), a, b, c)
			same(t, nat.Mul(nat.Mul(a, b), c), nat.Mul(c, b, a), a, b, c)
			same(t, nat.Mul(a, nat.Add(b, c)), nat.Add(nat.Mul(a, b), nat.Mul(a, c)), a, b, c)
			back, ok := nat.Sub(nat.Add(a, b), b)
			same(t, back, nat.Add(a), a, b)
			if !ok {
				t.Error(a, b)
			}
		}
	}
}
