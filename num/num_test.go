package num_test

import (
	"math"
	"math/big"
	"slices"
	"testing"

	"calliope/num"
)

const (
	least = math.MinInt64
	most  = math.MaxInt64
)

// wrongPowers are powers by which nothing is divided.
var wrongPowers = []int{math.MinInt, math.MinInt32, -64, -63, -62, -1, 63, 64, 65, 127, 128, 1 << 32, math.MaxInt}

// chance is a row of numbers that look like chance, and are the same in each run.
type chance uint64

func (c *chance) next() uint64 {
	*c = *c*6364136223846793005 + 1442695040888963407
	x := uint64(*c)
	return x ^ x>>29
}

func (c *chance) below(n int) int {
	return int(c.next() >> 33 % uint64(n))
}

// number is one of any length of bits, with either sign.
func (c *chance) number() int64 {
	return int64(c.next()) >> c.below(64)
}

// edges are the powers of two, and what lies two around them, with both signs.
func edges() []int64 {
	var l []int64
	for power := range 64 {
		for off := int64(-2); off <= 2; off++ {
			v := int64(1)<<power + off
			l = append(l, v, -v)
		}
	}
	slices.Sort(l)
	return slices.Compact(l)
}

// numbers are the edges, all numbers around 0, and some by chance.
func numbers() []int64 {
	l := edges()
	for v := int64(-300); v <= 300; v++ {
		l = append(l, v)
	}
	c := chance(1)
	for range 300 {
		l = append(l, c.number())
	}
	return l
}

// floor is a quotient downwards, by another way than the program's.
func floor(a, b *big.Int) *big.Int {
	return new(big.Int).Div(a, b)
}

// halfUp is a number divided by 2 to a power, and a half more, downwards.
func halfUp(v *big.Int, power int) *big.Int {
	whole := new(big.Int).Lsh(big.NewInt(1), uint(power))
	double := new(big.Int).Lsh(v, 1)
	return floor(double.Add(double, whole), new(big.Int).Lsh(whole, 1))
}

func roundByBig(v int64, power int) int64 {
	return halfUp(big.NewInt(v), power).Int64()
}

func nearByBig(v int64, power int) int64 {
	b := big.NewInt(v)
	out := halfUp(new(big.Int).Abs(b), power)
	if b.Sign() < 0 {
		out.Neg(out)
	}
	return out.Int64()
}

func cutByBig(v int64, power int) int64 {
	whole := new(big.Int).Lsh(big.NewInt(1), uint(power))
	return new(big.Int).Quo(big.NewInt(v), whole).Int64()
}

// within is a number held within 64 bits.
func within(v *big.Int) int64 {
	if v.IsInt64() {
		return v.Int64()
	}
	if v.Sign() < 0 {
		return least
	}
	return most
}

// Words: a sample's bounds.
func TestBounds(t *testing.T) {
	if num.Low != -32768 || num.High != 32767 {
		t.Error(num.Low, num.High)
	}
}

// Promise 3.1, Clamp: below, within, above, at the bounds, and bounds that are one.
func TestClamp(t *testing.T) {
	for _, x := range []struct{ v, low, high, want int64 }{
		{5, 0, 10, 5},
		{0, 0, 10, 0},
		{10, 0, 10, 10},
		{-1, 0, 10, 0},
		{11, 0, 10, 10},
		{-15, -20, -10, -15},
		{-25, -20, -10, -20},
		{0, -20, -10, -10},
		{3, 7, 7, 7},
		{9, 7, 7, 7},
		{least, -5, 5, -5},
		{most, -5, 5, 5},
		{least, least, most, least},
		{most, least, most, most},
		{0, least, most, 0},
	} {
		if got := num.Clamp(x.v, x.low, x.high); got != x.want {
			t.Errorf("Clamp(%d, %d, %d) = %d; want %d", x.v, x.low, x.high, got, x.want)
		}
	}
}

// Promise 3.1, Clamp: the lower bound, if the bounds are the wrong way round, wherever the number lies.
func TestClampWrongWay(t *testing.T) {
	for _, v := range []int64{least, -1, 0, 1, 2, 5, 8, 9, 10, most} {
		if got := num.Clamp(v, 9, 1); got != 9 {
			t.Errorf("Clamp(%d, 9, 1) = %d; want 9", v, got)
		}
		if got := num.Clamp(v, most, least); got != most {
			t.Errorf("Clamp(%d, most, least) = %d; want most", v, got)
		}
		if got := num.Clamp(v, 2, 1); got != 2 {
			t.Errorf("Clamp(%d, 2, 1) = %d; want 2", v, got)
		}
	}
}

// clampByOrder is the chapter's words, in their order.
func clampByOrder(v, low, high int64) int64 {
	switch {
	case v < low, low > high:
		return low
	case v > high:
		return high
	}
	return v
}

// Promise 3.1, Clamp: each three of some numbers, in each order.
func TestClampTriples(t *testing.T) {
	l := []int64{least, least + 1, -32769, -32768, -2, -1, 0, 1, 2, 32767, 32768, most - 1, most}
	for _, v := range l {
		for _, low := range l {
			for _, high := range l {
				if got, want := num.Clamp(v, low, high), clampByOrder(v, low, high); got != want {
					t.Errorf("Clamp(%d, %d, %d) = %d; want %d", v, low, high, got, want)
				}
			}
		}
	}
}

// Promise 3.1, Sat: all samples and what lies around them, and numbers far away.
func TestSat(t *testing.T) {
	for v := int64(-33000); v <= 33000; v++ {
		wantSat(t, v)
	}
	for _, v := range numbers() {
		wantSat(t, v)
	}
	if num.Sat(40000) != 32767 || num.Sat(-40000) != -32768 || num.Sat(32767) != 32767 || num.Sat(-32768) != -32768 {
		t.Error("the bounds of a sample")
	}
	if num.Sat(most) != 32767 || num.Sat(least) != -32768 || num.Sat(1<<32+5) != 32767 || num.Sat(-1<<32+5) != -32768 {
		t.Error("far beyond the bounds of a sample")
	}
}

func wantSat(t *testing.T, v int64) {
	t.Helper()
	if got, want := num.Sat(v), int(clampByOrder(v, -32768, 32767)); got != want {
		t.Errorf("Sat(%d) = %d; want %d", v, got, want)
	}
}

// Promise 3.1, Abs: with the least number, whose own would not fit.
func TestAbs(t *testing.T) {
	if num.Abs(least) != most || num.Abs(least+1) != most || num.Abs(most) != most {
		t.Error(num.Abs(least), num.Abs(least+1), num.Abs(most))
	}
	if num.Abs(0) != 0 || num.Abs(5) != 5 || num.Abs(-5) != 5 || num.Abs(least+2) != most-1 {
		t.Error(num.Abs(0), num.Abs(5), num.Abs(-5), num.Abs(least+2))
	}
	for _, v := range numbers() {
		if got, want := num.Abs(v), within(new(big.Int).Abs(big.NewInt(v))); got != want {
			t.Errorf("Abs(%d) = %d; want %d", v, got, want)
		}
	}
}

// Promise 3.1, Peak: of none, of one, and wherever the greatest stands, with either sign.
func TestPeak(t *testing.T) {
	for _, x := range []struct {
		l    []int64
		want int64
	}{
		{nil, 0},
		{[]int64{}, 0},
		{[]int64{0}, 0},
		{[]int64{0, 0, 0}, 0},
		{[]int64{7}, 7},
		{[]int64{-7}, 7},
		{[]int64{-5, 3}, 5},
		{[]int64{3, -5}, 5},
		{[]int64{-3, 5}, 5},
		{[]int64{5, -3}, 5},
		{[]int64{1, 9, 2}, 9},
		{[]int64{1, -9, 2}, 9},
		{[]int64{-1, -2, -9}, 9},
		{[]int64{-9, 9}, 9},
		{[]int64{-1, 0}, 1},
		{[]int64{least}, most},
		{[]int64{1, least, 2}, most},
		{[]int64{least, most}, most},
		{[]int64{most - 1, least + 2}, most - 1},
	} {
		if got := num.Peak(x.l...); got != x.want {
			t.Errorf("Peak(%d) = %d; want %d", x.l, got, x.want)
		}
	}
	if num.Peak() != 0 {
		t.Error(num.Peak())
	}
}

// Promise 3.1, Peak: the greatest at each place of lists of many lengths.
func TestPeakPlaces(t *testing.T) {
	for n := 1; n <= 40; n++ {
		for i := range n {
			for _, v := range []int64{1000, -1000} {
				l := make([]int64, n)
				for k := range l {
					l[k] = int64(k - 20)
				}
				l[i] = v
				if got := num.Peak(l...); got != 1000 {
					t.Errorf("Peak(%d) = %d; want 1000", l, got)
				}
			}
		}
	}
}

// Promise 3.2, Round, Near and Cut: what they make of halves, and of what lies around them.
func TestHalves(t *testing.T) {
	for _, x := range []struct {
		v                int64
		power            int
		round, near, cut int64
	}{
		{0, 0, 0, 0, 0},
		{5, 0, 5, 5, 5},
		{-5, 0, -5, -5, -5},
		{0, 1, 0, 0, 0},
		{1, 1, 1, 1, 0},
		{-1, 1, 0, -1, 0},
		{2, 1, 1, 1, 1},
		{-2, 1, -1, -1, -1},
		{3, 1, 2, 2, 1},
		{-3, 1, -1, -2, -1},
		{1, 2, 0, 0, 0},
		{-1, 2, 0, 0, 0},
		{2, 2, 1, 1, 0},
		{-2, 2, 0, -1, 0},
		{3, 2, 1, 1, 0},
		{-3, 2, -1, -1, 0},
		{5, 2, 1, 1, 1},
		{-5, 2, -1, -1, -1},
		{6, 2, 2, 2, 1},
		{-6, 2, -1, -2, -1},
		{7, 2, 2, 2, 1},
		{-7, 2, -2, -2, -1},
		{1 << 13, 14, 1, 1, 0},
		{-1 << 13, 14, 0, -1, 0},
		{1<<13 - 1, 14, 0, 0, 0},
		{-1<<13 - 1, 14, -1, -1, 0},
		{-1<<13 + 1, 14, 0, 0, 0},
	} {
		wantDivided(t, x.v, x.power, x.round, x.near, x.cut)
	}
}

// Promise 3.2, Round, Near and Cut: the greatest and the least numbers, by the least and the greatest powers.
func TestHalvesFarAway(t *testing.T) {
	for _, x := range []struct {
		v                int64
		power            int
		round, near, cut int64
	}{
		{most, 0, most, most, most},
		{least, 0, least, least, least},
		{most, 1, 1 << 62, 1 << 62, 1<<62 - 1},
		{least, 1, -1 << 62, -1 << 62, -1 << 62},
		{least + 1, 1, -1<<62 + 1, -1 << 62, -1<<62 + 1},
		{most, 62, 2, 2, 1},
		{least, 62, -2, -2, -2},
		{least + 1, 62, -2, -2, -1},
		{3 << 61, 62, 2, 2, 1},
		{-3 << 61, 62, -1, -2, -1},
		{-3<<61 - 1, 62, -2, -2, -1},
		{-3<<61 + 1, 62, -1, -1, -1},
		{1 << 62, 62, 1, 1, 1},
		{-1 << 62, 62, -1, -1, -1},
		{1 << 61, 62, 1, 1, 0},
		{-1 << 61, 62, 0, -1, 0},
		{1<<61 - 1, 62, 0, 0, 0},
		{-1<<61 - 1, 62, -1, -1, 0},
	} {
		wantDivided(t, x.v, x.power, x.round, x.near, x.cut)
	}
}

func wantDivided(t *testing.T, v int64, power int, round, near, cut int64) {
	t.Helper()
	if got := num.Round(v, power); got != round {
		t.Errorf("Round(%d, %d) = %d; want %d", v, power, got, round)
	}
	if got := num.Near(v, power); got != near {
		t.Errorf("Near(%d, %d) = %d; want %d", v, power, got, near)
	}
	if got := num.Cut(v, power); got != cut {
		t.Errorf("Cut(%d, %d) = %d; want %d", v, power, got, cut)
	}
}

// Promise 3.2, Round, Near and Cut: many numbers by each power, by another way.
func TestDivided(t *testing.T) {
	for _, v := range numbers() {
		for power := range 63 {
			wantDivided(t, v, power, roundByBig(v, power), nearByBig(v, power), cutByBig(v, power))
		}
	}
}

// Promise 3.2, Round, Near and Cut: 0 of other powers, whatever the number.
func TestWrongPowers(t *testing.T) {
	for _, power := range wrongPowers {
		for _, v := range []int64{least, -1 << 62, -3, -1, 0, 1, 3, 1 << 62, most} {
			wantDivided(t, v, power, 0, 0, 0)
		}
	}
}

// Promise 3.2, Floor and Mod: both signs, with and without something left.
func TestFloorMod(t *testing.T) {
	for _, x := range []struct{ a, b, floor, mod int64 }{
		{0, 1, 0, 0},
		{0, 5, 0, 0},
		{7, 1, 7, 0},
		{-7, 1, -7, 0},
		{7, 2, 3, 1},
		{-7, 2, -4, 1},
		{6, 2, 3, 0},
		{-6, 2, -3, 0},
		{1, 3, 0, 1},
		{-1, 3, -1, 2},
		{-3, 3, -1, 0},
		{-4, 3, -2, 2},
		{3, 12, 0, 3},
		{-3, 12, -1, 9},
		{most, 1, most, 0},
		{least, 1, least, 0},
		{most, most, 1, 0},
		{most - 1, most, 0, most - 1},
		{least, most, -2, most - 1},
		{least + 1, most, -1, 0},
		{-1, most, -1, most - 1},
		{least, 3, -3074457345618258603, 1},
	} {
		wantFloorMod(t, x.a, x.b, x.floor, x.mod)
	}
}

func wantFloorMod(t *testing.T, a, b, floor, mod int64) {
	t.Helper()
	if got := num.Floor(a, b); got != floor {
		t.Errorf("Floor(%d, %d) = %d; want %d", a, b, got, floor)
	}
	if got := num.Mod(a, b); got != mod {
		t.Errorf("Mod(%d, %d) = %d; want %d", a, b, got, mod)
	}
}

// Promise 3.2, Floor and Mod: many numbers by many others, by another way; and 0 of b below 1.
func TestFloorModAll(t *testing.T) {
	for _, a := range edges() {
		for _, b := range edges() {
			if b < 1 {
				wantFloorMod(t, a, b, 0, 0)
				continue
			}
			quotient, left := new(big.Int).DivMod(big.NewInt(a), big.NewInt(b), new(big.Int))
			wantFloorMod(t, a, b, quotient.Int64(), left.Int64())
		}
	}
}

// Promise 3.2, Floor and Mod: of b below 1, where the quotient would be one, or would not fit.
func TestFloorModBelowOne(t *testing.T) {
	for _, b := range []int64{0, -1, -2, -3, -12, -1 << 32, least + 1, least} {
		for _, a := range []int64{least, -7, -1, 0, 1, 7, most} {
			wantFloorMod(t, a, b, 0, 0)
		}
	}
}

// Promise 3.2, Width: known ones.
func TestWidth(t *testing.T) {
	for v, want := range map[int64]int{
		0: 0, -1: 1, 1: 2, -2: 2, 2: 3, 3: 3, -3: 3, -4: 3, 4: 4, -5: 4,
		127: 8, -128: 8, 128: 9, -129: 9,
		32767: 16, -32768: 16, 32768: 17, -32769: 17,
		1<<31 - 1: 32, -1 << 31: 32, 1 << 31: 33, -1<<31 - 1: 33,
		1<<62 - 1: 63, -1 << 62: 63, 1 << 62: 64, -1<<62 - 1: 64,
		most: 64, least: 64,
	} {
		if got := num.Width(v); got != want {
			t.Errorf("Width(%d) = %d; want %d", v, got, want)
		}
	}
}

// fits tells whether a number is a two's complement of so many bits.
func fits(v int64, k int) bool {
	if k == 0 {
		return v == 0
	}
	return v>>(k-1) == 0 || v>>(k-1) == -1
}

// Promise 3.2, Width: a number fits its width, and nothing narrower.
func TestWidthIsLeast(t *testing.T) {
	for _, v := range numbers() {
		k := num.Width(v)
		if k < 0 || k > 64 || !fits(v, k) || k > 0 && fits(v, k-1) {
			t.Errorf("Width(%d) = %d", v, k)
		}
	}
}

// Promise 3.3, Add and Mix: of none, of few, and held at both ends, each time anew.
func TestAdd(t *testing.T) {
	for _, x := range []struct {
		l    []int64
		want int64
	}{
		{nil, 0},
		{[]int64{}, 0},
		{[]int64{0}, 0},
		{[]int64{5}, 5},
		{[]int64{-5}, -5},
		{[]int64{1, 2, 3}, 6},
		{[]int64{-1, -2, -3}, -6},
		{[]int64{30000, 30000, -40000}, 20000},
		{[]int64{-30000, -30000, 40000}, -20000},
		{[]int64{most}, most},
		{[]int64{least}, least},
		{[]int64{most, 0}, most},
		{[]int64{least, 0}, least},
		{[]int64{most - 1, 1}, most},
		{[]int64{least + 1, -1}, least},
		{[]int64{most, 1}, most},
		{[]int64{least, -1}, least},
		{[]int64{most, most}, most},
		{[]int64{least, least}, least},
		{[]int64{most, least}, -1},
		{[]int64{least, most}, -1},
		{[]int64{1 << 62, 1 << 62}, most},
		{[]int64{-1 << 62, -1 << 62}, least},
		{[]int64{-1 << 62, -1<<62 - 1}, least},
		{[]int64{1 << 62, 1 << 62, 1 << 62}, most},
		{[]int64{-1 << 62, -1 << 62, -1 << 62}, least},
	} {
		wantAdd(t, x.l, x.want)
	}
	if num.Add() != 0 || num.Mix() != 0 {
		t.Error(num.Add(), num.Mix())
	}
}

// Promise 3.3, Add and Mix: what was held stays held, so the order tells.
func TestAddOneByOne(t *testing.T) {
	for _, x := range []struct {
		l    []int64
		want int64
	}{
		{[]int64{most, 1, -1}, most - 1},
		{[]int64{most, -1, 1}, most},
		{[]int64{1, most, -1}, most - 1},
		{[]int64{1, -1, most}, most},
		{[]int64{least, -1, 1}, least + 1},
		{[]int64{least, 1, -1}, least},
		{[]int64{most, most, least}, -1},
		{[]int64{most, most, least, least}, least},
		{[]int64{least, least, most}, -1},
		{[]int64{least, least, most, most}, most - 1},
		{[]int64{most, 1, -most}, 0},
		{[]int64{most, 100, -most, 7}, 7},
		{[]int64{least, -100, most, 8}, 7},
		{[]int64{1 << 62, 1 << 62, -1 << 62, -1 << 62}, -1},
		{[]int64{-1 << 62, -1<<62 - 9, 1 << 62, 1 << 62}, 0},
	} {
		wantAdd(t, x.l, x.want)
	}
}

func wantAdd(t *testing.T, l []int64, want int64) {
	t.Helper()
	if got := num.Add(l...); got != want {
		t.Errorf("Add(%d) = %d; want %d", l, got, want)
	}
	if got, sample := num.Mix(l...), int(clampByOrder(want, -32768, 32767)); got != sample {
		t.Errorf("Mix(%d) = %d; want %d", l, got, sample)
	}
}

// Promise 3.3, Mix: the sum is held within a sample's bounds, and not what comes ahead of it.
func TestMix(t *testing.T) {
	for _, x := range []struct {
		l    []int64
		want int
	}{
		{[]int64{30000, 30000}, 32767},
		{[]int64{-30000, -30000}, -32768},
		{[]int64{32767}, 32767},
		{[]int64{32767, 1}, 32767},
		{[]int64{32768, -1}, 32767},
		{[]int64{-32768}, -32768},
		{[]int64{-32768, -1}, -32768},
		{[]int64{-32769, 1}, -32768},
		{[]int64{32768, 32767, -65535}, 0},
		{[]int64{40000, -30000}, 10000},
		{[]int64{-40000, 30000}, -10000},
		{[]int64{100000, -99999}, 1},
		{[]int64{most, most, -most}, 0},
		{[]int64{1 << 32, 5}, 32767},
		{[]int64{-1 << 32, 5}, -32768},
	} {
		if got := num.Mix(x.l...); got != x.want {
			t.Errorf("Mix(%d) = %d; want %d", x.l, got, x.want)
		}
	}
}

// Promise 3.3, Add and Mix: each two of the edges.
func TestAddPairs(t *testing.T) {
	for _, a := range edges() {
		for _, b := range edges() {
			wantAdd(t, []int64{a, b}, within(new(big.Int).Add(big.NewInt(a), big.NewInt(b))))
		}
	}
}

// Promise 3.3, Add and Mix: rows of any length, by another way.
func TestAddRows(t *testing.T) {
	c := chance(3)
	for range 2000 {
		l := make([]int64, c.below(12))
		want := int64(0)
		for i := range l {
			l[i] = c.number()
			want = within(new(big.Int).Add(big.NewInt(want), big.NewInt(l[i])))
		}
		wantAdd(t, l, want)
	}
}

// Rule R3: lists that are handed in are not changed.
func TestListsStay(t *testing.T) {
	l := []int64{most, -5, least, 3, 0, 40000}
	mine := slices.Clone(l)
	num.Peak(mine...)
	num.Add(mine...)
	num.Mix(mine...)
	if !slices.Equal(mine, l) {
		t.Errorf("%d; want %d", mine, l)
	}
}

// Promise 3.4: how far what was divided is from the quotient, told in parts of the divisor.
func TestHowFar(t *testing.T) {
	for _, v := range numbers() {
		for power := range 63 {
			whole := int64(1) << power
			// These differences are below 2^63, without their signs; so wrapping round does them no harm.
			up, away, inward := num.Round(v, power)<<power-v, num.Near(v, power)<<power-v, num.Cut(v, power)<<power-v
			if !isWithin(up, -((whole - 1) / 2), whole/2) {
				t.Errorf("Round(%d, %d) is off by %d", v, power, up)
			}
			if v >= 0 && !isWithin(away, -((whole-1)/2), whole/2) || v < 0 && !isWithin(away, -(whole/2), (whole-1)/2) {
				t.Errorf("Near(%d, %d) is off by %d", v, power, away)
			}
			if v >= 0 && !isWithin(inward, 1-whole, 0) || v < 0 && !isWithin(inward, 0, whole-1) {
				t.Errorf("Cut(%d, %d) is off by %d", v, power, inward)
			}
		}
	}
}

func isWithin(v, low, high int64) bool {
	return low <= v && v <= high
}

// Promise 3.4: a times b is found again, and so is what was added to it.
func TestFoundAgain(t *testing.T) {
	c := chance(4)
	for range 20000 {
		a, b := c.number()>>32, int64(1+c.below(1<<31-1))>>c.below(31)
		b = max(b, 1)
		wantFloorMod(t, a*b, b, a, 0)
		left := int64(c.next() % uint64(b))
		wantFloorMod(t, a*b+left, b, a, left)
	}
	for _, a := range numbers() {
		for _, b := range []int64{1, 2, 3, 7, 12, 16, 1 << 14, 1<<31 - 1, 1 << 62, most} {
			quotient, left := num.Floor(a, b), num.Mod(a, b)
			if quotient*b+left != a || left < 0 || left >= b {
				t.Errorf("%d by %d: %d and %d", a, b, quotient, left)
			}
		}
	}
}
