package quant_test

import (
	"math"
	"math/big"
	"testing"

	"calliope/api"
	"calliope/quant"
)

const (
	least = math.MinInt64
	most  = math.MaxInt64
	bound = 1 << 40 // of the numbers that are promised
)

// chance is a row of numbers that look like chance, and are the same in each run.
type chance uint64

func (c *chance) next() uint64 {
	*c = *c*6364136223846793005 + 1442695040888963407
	x := uint64(*c)
	return x ^ x>>29
}

func (c *chance) below(n int) int {
	return int(c.next() >> 33 % uint64(n))
}

// number is one between -top and top, both among them.
func (c *chance) number(top int64) int64 {
	switch c.below(8) {
	case 0:
		return top
	case 1:
		return -top
	case 2:
		return 0
	}
	return int64(c.next()>>1%uint64(2*top+1)) - top
}

func (c *chance) block(top int64) api.Block {
	var b api.Block
	for i := range b {
		b[i] = c.number(top)
	}
	return b
}

// scales are some that may be.
func (c *chance) scales() quant.Scales {
	var s quant.Scales
	for k := range s {
		s[k] = c.below(24)
	}
	return s
}

// tops are how great the numbers of blocks are, up to a bound.
func tops(bound int64) []int64 {
	l := []int64{0, 3, 5, 7, 100, 32767, bound - 1}
	for top := int64(1); top <= bound; top *= 2 {
		l = append(l, top)
	}
	return l
}

// same are the scales of one number alone.
func same(scale int) quant.Scales {
	return quant.Scales{scale, scale, scale, scale}
}

// wrong are numbers that no scale is.
func wrong() []int {
	return []int{-1, 24, 25, -23, -24, -64, 62, 63, 64, 128, 256, 1 << 32, math.MinInt, math.MinInt + 1, math.MaxInt - 1, math.MaxInt}
}

// wrongScales are some that may not be: one wrong one at each place, and all four.
func wrongScales() []quant.Scales {
	var l []quant.Scales
	for _, v := range wrong() {
		for k := range 4 {
			s, alone := quant.Scales{1, 2, 3, 4}, quant.Scales{}
			s[k], alone[k] = v, v
			l = append(l, s, alone)
		}
		l = append(l, same(v))
	}
	return l
}

// step is 2 to its power, by another way than the program's.
func step(scale int) int64 {
	v := int64(1)
	for range scale {
		v += v
	}
	return v
}

// nearest is how many steps a number is, to the nearest, halves away from 0, by another way than the program's.
func nearest(v int64, scale int) int64 {
	divisor := big.NewInt(2 * step(scale))
	b := big.NewInt(2 * abs(v))
	b.Add(b, big.NewInt(step(scale)))
	steps := b.Quo(b, divisor).Int64()
	if v < 0 {
		return -steps
	}
	return steps
}

// abs is a number without its sign.
func abs(v int64) int64 {
	if v < 0 {
		return -v
	}
	return v
}

// width is how many bits a number needs as a two's complement: tried one by one.
func width(v int64) int {
	if v == 0 {
		return 0
	}
	for bits := 1; ; bits++ {
		top := int64(1) << (bits - 1)
		if -top <= v && v < top {
			return bits
		}
	}
}

// Promise 9.1, Right: all scales that may be.
func TestRight(t *testing.T) {
	for a := range 24 {
		for b := range 24 {
			for c := range 24 {
				for d := range 24 {
					if s := (quant.Scales{a, b, c, d}); !s.Right() {
						t.Fatalf("%d.Right() = false", s)
					}
				}
			}
		}
	}
}

// Promise 9.1, Right: one wrong scale is enough.
func TestRightWrong(t *testing.T) {
	for _, s := range wrongScales() {
		if s.Right() {
			t.Errorf("%d.Right() = true", s)
		}
	}
}

// Promise 9.1, Band: each place, and none beyond.
func TestBand(t *testing.T) {
	want := [16]int{0, 0, 0, 0, 1, 1, 1, 1, 2, 2, 2, 2, 3, 3, 3, 3}
	for i, band := range want {
		if got := quant.Band(i); got != band {
			t.Errorf("Band(%d) = %d; want %d", i, got, band)
		}
	}
	for far := 1; far < 200; far++ {
		wantNoBand(t, -far)
		wantNoBand(t, 15+far)
	}
	for _, i := range []int{math.MinInt, math.MinInt + 5, math.MinInt32, 1 << 32, 1<<32 + 5, math.MaxInt - 5, math.MaxInt} {
		wantNoBand(t, i)
	}
}

func wantNoBand(t *testing.T, i int) {
	t.Helper()
	if got := quant.Band(i); got != 0 {
		t.Errorf("Band(%d) = %d; want 0", i, got)
	}
}

// Promise 9.1: some, by their numbers.
func TestKnown(t *testing.T) {
	for _, x := range []struct {
		b       api.Block
		s       quant.Scales
		q, back api.Block
	}{
		{api.Block{}, quant.Scales{}, api.Block{}, api.Block{}},
		{api.Block{100, -100}, quant.Scales{3}, api.Block{13, -13}, api.Block{104, -104}},
		{
			api.Block{1, -1, 3, -3, 1, -1, 3, -3, 1, -1, 3, -3, 1, -1, 3, -3},
			quant.Scales{0, 1, 2, 3},
			api.Block{1, -1, 3, -3, 1, -1, 2, -2, 0, 0, 1, -1},
			api.Block{1, -1, 3, -3, 2, -2, 4, -4, 0, 0, 4, -4},
		},
		{
			api.Block{12, -12, 11, -11, 7, -7, 6, -6, 5, -5, 4, -4, 1000, -1000, 500, -500},
			quant.Scales{3, 2, 1, 0},
			api.Block{2, -2, 1, -1, 2, -2, 2, -2, 3, -3, 2, -2, 1000, -1000, 500, -500},
			api.Block{16, -16, 8, -8, 8, -8, 8, -8, 6, -6, 4, -4, 1000, -1000, 500, -500},
		},
		{
			api.Block{1 << 22, -1 << 22, 1<<22 - 1, -1<<22 + 1, 12: bound, 13: -bound, 14: bound - 1, 15: 1 - bound},
			quant.Scales{23, 0, 0, 23},
			api.Block{1, -1, 0, 0, 12: 1 << 17, 13: -1 << 17, 14: 1 << 17, 15: -1 << 17},
			api.Block{1 << 23, -1 << 23, 0, 0, 12: bound, 13: -bound, 14: bound, 15: -bound},
		},
	} {
		q := quant.Steps(x.b, x.s)
		if q != x.q {
			t.Errorf("Steps(%d, %d) = %d; want %d", x.b, x.s, q, x.q)
		}
		if got := quant.Values(x.q, x.s); got != x.back {
			t.Errorf("Values(%d, %d) = %d; want %d", x.q, x.s, got, x.back)
		}
	}
}

// Promise 9.1, Steps: the numbers about each half of each scale's step, with both signs, near 0 and at the bound.
func TestStepsHalves(t *testing.T) {
	for scale := range 24 {
		for _, from := range []int64{0, step(scale), 5 * step(scale), 1 << 30, bound - step(scale)} {
			for _, at := range []int64{from, from + step(scale)/2, from + step(scale)} {
				for more := int64(-8); more < 8; more++ {
					wantSteps(t, max(-bound, min(at+more, bound)), scale)
					wantSteps(t, max(-bound, min(-at+more, bound)), scale)
				}
			}
		}
	}
}

func wantSteps(t *testing.T, v int64, scale int) {
	t.Helper()
	var b api.Block
	for i := range b {
		b[i] = v
	}
	want := nearest(v, scale)
	for i, got := range quant.Steps(b, same(scale)) {
		if got != want {
			t.Errorf("%d at %d, in steps of 2^%d: %d; want %d", v, i, scale, got, want)
		}
	}
}

// Promises 9.1 and 9.3: any numbers, with any scales: each by its own band's. Their values are no further from them than Half, and of scale 0 they are they.
func TestAny(t *testing.T) {
	c := chance(1)
	for _, top := range tops(bound) {
		for range 500 {
			b, s := c.block(top), c.scales()
			q := quant.Steps(b, s)
			back := quant.Values(q, s)
			for i, v := range b {
				scale := s[i/4]
				if want := nearest(v, scale); q[i] != want {
					t.Errorf("Steps(%d, %d) has %d at %d; want %d", b, s, q[i], i, want)
				}
				if want := q[i] * step(scale); back[i] != want {
					t.Errorf("Values(%d, %d) has %d at %d; want %d", q, s, back[i], i, want)
				}
				if off := abs(back[i] - v); off > quant.Half(scale) {
					t.Errorf("%d in steps of 2^%d is %d: further than %d", v, scale, back[i], quant.Half(scale))
				}
			}
			if again := quant.Steps(back, s); again != q {
				t.Errorf("Steps(%d, %d) = %d; want %d, whose values these are", back, s, again, q)
			}
		}
	}
}

// Promise 9.1, Values: any steps, of which none's number is beyond the bound.
func TestValuesAny(t *testing.T) {
	c := chance(2)
	for scale := range 24 {
		for _, top := range tops(bound >> scale) {
			q := c.block(top)
			for i, got := range quant.Values(q, same(scale)) {
				if want := q[i] * step(scale); got != want {
					t.Errorf("%d steps of 2^%d: %d; want %d", q[i], scale, got, want)
				}
			}
		}
	}
}

// Promise 9.1: the scale of one band changes nothing of another.
func TestBandsAlone(t *testing.T) {
	c := chance(3)
	for band := range 4 {
		for scale := 1; scale < 24; scale++ {
			b, s := c.block(bound), quant.Scales{}
			s[band] = scale
			q, v := quant.Steps(b, s), quant.Values(c.block(1000), s)
			for i := range b {
				if i/4 != band && q[i] != b[i] {
					t.Errorf("Steps(%d, %d) has %d at %d", b, s, q[i], i)
				}
				if i/4 == band && v[i]%step(scale) != 0 {
					t.Errorf("%d is no number of steps of 2^%d", v[i], scale)
				}
			}
		}
	}
}

// Promise 9.3: of scale 0 the values are the numbers.
func TestScaleNought(t *testing.T) {
	c := chance(4)
	for _, top := range tops(bound) {
		b := c.block(top)
		q := quant.Steps(b, quant.Scales{})
		if q != b || quant.Values(q, quant.Scales{}) != b {
			t.Errorf("%d in steps of 1: %d, values %d", b, q, quant.Values(q, quant.Scales{}))
		}
	}
}

// Promise 9.1: both noughts of scales that may not be, whichever of the four is wrong.
func TestWrongScales(t *testing.T) {
	c := chance(5)
	for _, s := range wrongScales() {
		b := c.block(bound)
		b[0], b[4], b[8], b[12] = 1, 2, 3, 4
		if got := quant.Steps(b, s); got != (api.Block{}) {
			t.Errorf("Steps(%d, %d) = %d; want noughts", b, s, got)
		}
		if got := quant.Values(b, s); got != (api.Block{}) {
			t.Errorf("Values(%d, %d) = %d; want noughts", b, s, got)
		}
	}
}

// Promise 9.2, Widths: some, by their numbers.
func TestWidthsKnown(t *testing.T) {
	for _, x := range []struct {
		q    api.Block
		want [4]int
	}{
		{api.Block{}, [4]int{}},
		{api.Block{13, -13, 0, 0, 4}, [4]int{5, 4, 0, 0}},
		{api.Block{-1, 0, 0, 0, 0, 1, 0, 0, 0, 0, -2, 0, 0, 0, 0, 2}, [4]int{1, 2, 2, 3}},
		{api.Block{127, -128, 0, 0, -128, -127, 0, 0, 128, -128, 0, 0, -129, 1, 1, 1}, [4]int{8, 8, 9, 9}},
		{api.Block{-128, 0, 0, -1, 63, -64, 62, 61, -1, -1, -1, -1, 1, -1, 0, 0}, [4]int{8, 7, 1, 2}},
		{api.Block{bound, 0, 0, 0, -bound, 0, 0, 0, bound - 1, 0, 0, 0, -bound, 1 - bound}, [4]int{42, 41, 41, 41}},
	} {
		if got := quant.Widths(x.q); got != x.want {
			t.Errorf("Widths(%d) = %d; want %d", x.q, got, x.want)
		}
	}
}

// Promise 9.2, Widths: one number alone, at each place, about each power of two.
func TestWidthsAlone(t *testing.T) {
	for power := range 41 {
		for more := int64(-2); more <= 2; more++ {
			for _, v := range []int64{1<<power + more, -1<<power + more} {
				if abs(v) > bound {
					continue
				}
				for i := range 16 {
					want := [4]int{}
					want[i/4] = width(v)
					var q api.Block
					q[i] = v
					if got := quant.Widths(q); got != want {
						t.Errorf("Widths of %d at %d = %d; want %d", v, i, got, want)
					}
				}
			}
		}
	}
}

// Promise 9.2, Widths: the most of each band, and nothing of the others.
func TestWidthsAny(t *testing.T) {
	c := chance(6)
	for _, top := range tops(bound) {
		for range 200 {
			var q api.Block
			for i := range q {
				q[i] = c.number(top >> c.below(4))
			}
			var want [4]int
			for i, v := range q {
				want[i/4] = max(want[i/4], width(v))
			}
			if got := quant.Widths(q); got != want {
				t.Errorf("Widths(%d) = %d; want %d", q, got, want)
			}
		}
	}
}

// Promise 9.2, Noise: some, by their numbers.
func TestNoiseKnown(t *testing.T) {
	for _, x := range []struct {
		a, b api.Block
		want int64
	}{
		{api.Block{}, api.Block{}, 0},
		{api.Block{5, 6, 7}, api.Block{5, 6, 7}, 0},
		{api.Block{100, -100}, api.Block{104, -104}, 4},
		{api.Block{3: 10, 9: -20}, api.Block{3: 4, 9: -13}, 7},
		{api.Block{3: 10, 9: -20}, api.Block{3: -4, 9: -13}, 14},
		{api.Block{7}, api.Block{-7}, 14},
		{api.Block{15: bound}, api.Block{15: -bound}, 2 * bound},
		{api.Block{-bound}, api.Block{bound}, 2 * bound},
		{api.Block{bound, -bound}, api.Block{bound, -bound}, 0},
	} {
		if got := quant.Noise(x.a, x.b); got != x.want {
			t.Errorf("Noise(%d, %d) = %d; want %d", x.a, x.b, got, x.want)
		}
	}
}

// Promise 9.2, Noise: one number alone, at each place, either way.
func TestNoiseAlone(t *testing.T) {
	c := chance(7)
	b := c.block(bound / 2)
	for i := range 16 {
		for _, v := range []int64{1, -1, 2, 1000, -1000, bound / 2, -bound / 2} {
			a := b
			a[i] += v
			if quant.Noise(a, b) != abs(v) || quant.Noise(b, a) != abs(v) {
				t.Errorf("%d off at %d: %d, and %d", v, i, quant.Noise(a, b), quant.Noise(b, a))
			}
		}
	}
}

// Promise 9.2, Noise: any two blocks.
func TestNoiseAny(t *testing.T) {
	c := chance(8)
	for _, top := range tops(bound) {
		for range 200 {
			a, b := c.block(top), c.block(top)
			want := int64(0)
			for i := range a {
				want = max(want, abs(a[i]-b[i]))
			}
			if quant.Noise(a, b) != want || quant.Noise(b, a) != want {
				t.Errorf("Noise(%d, %d) = %d, the other way round %d; want %d", a, b, quant.Noise(a, b), quant.Noise(b, a), want)
			}
		}
	}
}

// Promise 9.2, Half: all scales, and none beyond.
func TestHalf(t *testing.T) {
	if got := quant.Half(0); got != 0 {
		t.Errorf("Half(0) = %d; want 0", got)
	}
	for scale := 1; scale < 24; scale++ {
		if got, want := quant.Half(scale), step(scale-1); got != want {
			t.Errorf("Half(%d) = %d; want %d", scale, got, want)
		}
	}
	for far := 1; far < 300; far++ {
		wantNoHalf(t, -far)
		wantNoHalf(t, 23+far)
	}
	for _, scale := range wrong() {
		wantNoHalf(t, scale)
	}
}

func wantNoHalf(t *testing.T, scale int) {
	t.Helper()
	if got := quant.Half(scale); got != 0 {
		t.Errorf("Half(%d) = %d; want 0", scale, got)
	}
}

// Promise 9.3: values are as far as Half from a number, and never further: each number of three steps of the small scales, with both signs.
func TestHalfReached(t *testing.T) {
	for scale := range 10 {
		furthest := int64(0)
		for v := -3 * step(scale); v <= 3*step(scale); v++ {
			b := api.Block{v}
			off := quant.Noise(b, quant.Values(quant.Steps(b, same(scale)), same(scale)))
			furthest = max(furthest, off)
		}
		if furthest != quant.Half(scale) {
			t.Errorf("scale %d: numbers up to %d away; want %d", scale, furthest, quant.Half(scale))
		}
	}
}

// Promise 9.2, Cost: four times the sum, whatever the widths.
func TestCost(t *testing.T) {
	for _, x := range []struct {
		w    [4]int
		want int
	}{
		{[4]int{}, 0},
		{[4]int{1}, 4},
		{[4]int{0, 1}, 4},
		{[4]int{2: 1}, 4},
		{[4]int{3: 1}, 4},
		{[4]int{5, 4}, 36},
		{[4]int{1, 2, 3, 4}, 40},
		{[4]int{24, 24, 24, 24}, 384},
		{[4]int{42, 42, 42, 42}, 672},
		{[4]int{-1, 1}, 0},
		{[4]int{-1, -2, -3, -4}, -40},
		{[4]int{1000, 200, 30, 4}, 4936},
	} {
		if got := quant.Cost(x.w); got != x.want {
			t.Errorf("Cost(%d) = %d; want %d", x.w, got, x.want)
		}
	}
}

// Promise 9.2: the cost of widths is the bits of all steps, each of its band's width.
func TestCostOfWidths(t *testing.T) {
	c := chance(9)
	for _, top := range tops(bound) {
		w := quant.Widths(c.block(top))
		want := 0
		for i := range 16 {
			want += w[i/4]
		}
		if got := quant.Cost(w); got != want {
			t.Errorf("Cost(%d) = %d; want %d", w, got, want)
		}
	}
}

// Promise P1: of numbers beyond, and any scales and widths, there is an end, and no panic.
func TestFar(t *testing.T) {
	far := []int64{least, least + 1, -1 << 62, -bound - 1, -1, 0, 1, bound + 1, 1 << 61, 1 << 62, most - 1, most}
	c := chance(10)
	for range 2000 {
		var a, b api.Block
		for i := range b {
			a[i], b[i] = far[c.below(len(far))], far[c.below(len(far))]
		}
		quant.Widths(b)
		quant.Noise(a, b)
		for _, s := range append(wrongScales(), c.scales()) {
			quant.Steps(b, s)
			quant.Values(b, s)
			quant.Cost(s)
		}
	}
}

// Rule R3: what is handed in is as it was.
func TestHandedIn(t *testing.T) {
	b, q, s := api.Block{100, -7, 15: -400}, api.Block{1, -2, 15: 3}, quant.Scales{3, 2, 1, 5}
	w := [4]int{1, 2, 3, 4}
	wasBlock, wasSteps, wasScales, wasWidths := b, q, s, w
	s.Right()
	quant.Steps(b, s)
	quant.Values(q, s)
	quant.Widths(q)
	quant.Noise(b, q)
	quant.Cost(w)
	if b != wasBlock || q != wasSteps || s != wasScales || w != wasWidths {
		t.Error(b, q, s, w)
	}
}
