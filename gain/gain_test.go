package gain_test

import (
	"math"
	"math/big"
	"testing"

	"calliope/api"
	"calliope/gain"
)

const (
	least = math.MinInt64
	most  = math.MaxInt64
	bound = 1 << 40 // of the samples that are promised
)

// chance is a row of numbers that look like chance, and are the same in each run.
type chance uint64

func (c *chance) next() uint64 {
	*c = *c*6364136223846793005 + 1442695040888963407
	x := uint64(*c)
	return x ^ x>>29
}

func (c *chance) below(n int) int {
	return int(c.next() >> 33 % uint64(n))
}

// number is one between -top and top, both among them.
func (c *chance) number(top int64) int64 {
	switch c.below(8) {
	case 0:
		return top
	case 1:
		return -top
	case 2:
		return 0
	}
	return int64(c.next()>>1%uint64(2*top+1)) - top
}

// block has quarters that are as loud as each other, or much quieter, or silent.
func (c *chance) block(top int64) api.Block {
	var b api.Block
	for band := range 4 {
		quiet := c.below(6)
		if quiet == 5 {
			continue
		}
		for k := range 4 {
			b[4*band+k] = c.number(top >> quiet)
		}
	}
	return b
}

// tops are how great the numbers of blocks are, up to the bound.
func tops() []int64 {
	l := []int64{0, 3, 5, 7, 100, 32767, bound - 1}
	for length := range 41 {
		l = append(l, 1<<length)
	}
	return l
}

// allGains are all that may be.
func allGains() [][4]int {
	var l [][4]int
	for n := range 256 {
		l = append(l, [4]int{n & 3, n >> 2 & 3, n >> 4 & 3, n >> 6})
	}
	return l
}

// wrongGains are some that may not be: one wrong one at each place, and more of them.
func wrongGains() [][4]int {
	var l [][4]int
	for _, v := range []int{-1, 4, 5, -4, 62, 63, 64, 256, -256, math.MaxInt, math.MinInt} {
		for k := range 4 {
			g := [4]int{1, 2, 3, 1}
			g[k] = v
			l = append(l, g)
		}
		l = append(l, [4]int{v, v, v, v})
	}
	return l
}

// times is a number times 2 to a power, by another way than the program's.
func times(v int64, power int) int64 {
	for range power {
		v += v
	}
	return v
}

// parted is a number divided by 2 to a power, to the nearest, halves upwards, by another way than the program's.
func parted(v int64, power int) int64 {
	divisor := new(big.Int).Lsh(big.NewInt(1), uint(power))
	twice := new(big.Int).Add(new(big.Int).Lsh(big.NewInt(v), 1), divisor)
	return new(big.Int).Div(twice, divisor.Lsh(divisor, 1)).Int64()
}

// abs is a number without its sign.
func abs(v int64) int64 {
	if v < 0 {
		return -v
	}
	return v
}

// peak is the greatest of numbers without their signs.
func peak(l []int64) int64 {
	p := int64(0)
	for _, v := range l {
		if abs(v) > p {
			p = abs(v)
		}
	}
	return p
}

// own is the chapter's words of a block's gains, asked from the greatest on.
func own(b api.Block) [4]int {
	var g [4]int
	for k := range g {
		p := peak(b[4*k : 4*k+4])
		if p == 0 {
			continue
		}
		for power := 3; power > 0; power-- {
			if times(p, power) <= peak(b[:]) {
				g[k] = power
				break
			}
		}
	}
	return g
}

// Promise 7.1, Of: some gains, by their numbers.
func TestOfKnown(t *testing.T) {
	for _, x := range []struct {
		b    api.Block
		want [4]int
	}{
		{api.Block{}, [4]int{}},
		{api.Block{10, 0, 0, 0, 80, 80, 80, 80, 80, 80, 80, 80, 80, 80, 80, 80}, [4]int{3, 0, 0, 0}},
		{api.Block{11, 0, 0, 0, 80, 80, 80, 80, 80, 80, 80, 80, 80, 80, 80, 80}, [4]int{2, 0, 0, 0}},
		{api.Block{0: 10, 4: 79}, [4]int{2, 0, 0, 0}},
		{api.Block{0: 10, 4: -80}, [4]int{3, 0, 0, 0}},
		{api.Block{3: -10, 7: 80}, [4]int{3, 0, 0, 0}},
		{api.Block{0: 1, 4: 2, 8: 4, 12: 8}, [4]int{3, 2, 1, 0}},
		{api.Block{3: -8, 7: 4, 11: -2, 15: 1}, [4]int{0, 1, 2, 3}},
		{api.Block{0: 1, 15: 1000}, [4]int{3, 0, 0, 0}},
		{api.Block{7, 0, 0, 0, -5, 0, 0, 0, 3, 2, 1, 0, -1, 1, -1, 1}, [4]int{0, 0, 1, 2}},
		{api.Block{-1000, 500, -501, 499, 250, -251, 249, 125, 126, -124, 124, -125, 0, 0, 0, 1}, [4]int{0, 1, 2, 3}},
		{api.Block{0: bound, 4: bound >> 1, 8: bound >> 2, 12: bound >> 3}, [4]int{0, 1, 2, 3}},
		{api.Block{0: -bound, 4: bound>>1 + 1, 8: -(bound>>2 + 1), 12: bound>>3 + 1}, [4]int{0, 0, 1, 2}},
	} {
		if got := gain.Of(x.b); got != x.want {
			t.Errorf("Of(%d) = %d; want %d", x.b, got, x.want)
		}
	}
}

// Promise 7.1, Of: a quarter's peak about each of the parts of the block's, wherever the two stand, and with either sign.
func TestOfEdges(t *testing.T) {
	for _, top := range tops() {
		for power := range 5 {
			for more := int64(-1); more <= 1; more++ {
				quiet := top>>power + more
				if quiet < 0 || quiet > top {
					continue
				}
				for place := range 16 {
					var b api.Block
					b[place], b[(place+4)%16] = quiet, -top
					if got, want := gain.Of(b), own(b); got != want {
						t.Errorf("Of(%d) = %d; want %d", b, got, want)
					}
					b[place], b[(place+4)%16] = -quiet, top
					if got, want := gain.Of(b), own(b); got != want {
						t.Errorf("Of(%d) = %d; want %d", b, got, want)
					}
				}
			}
		}
	}
}

// Promises 7.1 and 7.3: blocks of any numbers, of all lengths. Their own gains may be, make nothing louder than the peak, and are taken back.
func TestOfAny(t *testing.T) {
	c := chance(1)
	for _, top := range tops() {
		for range 300 {
			b := c.block(top)
			g := gain.Of(b)
			if want := own(b); g != want || !gain.Right(g) {
				t.Errorf("Of(%d) = %d; want %d", b, g, want)
			}
			u := gain.Up(b, g)
			if peak(u[:]) != peak(b[:]) {
				t.Errorf("%d with its own gains %d is %d, whose peak is another", b, g, u)
			}
			if got := gain.Down(u, g); got != b {
				t.Errorf("louder, and quiet again, %d is %d", b, got)
			}
		}
	}
}

// Promise 7.1, Of: the greatest: one more would pass the peak, if it might be.
func TestOfGreatest(t *testing.T) {
	c := chance(2)
	for range 20000 {
		b := c.block(1 << c.below(41))
		g := gain.Of(b)
		for k := range g {
			p := peak(b[4*k : 4*k+4])
			if p > 0 && g[k] < 3 && times(p, g[k]+1) <= peak(b[:]) {
				t.Errorf("Of(%d) = %d; the quarter %d might be louder", b, g, k)
			}
			if p == 0 && g[k] != 0 {
				t.Errorf("Of(%d) = %d; the quarter %d is silent", b, g, k)
			}
		}
	}
}

// Promise 7.1, Right and Flat: all gains that may be, and some that may not.
func TestRightFlat(t *testing.T) {
	for n, g := range allGains() {
		if !gain.Right(g) {
			t.Errorf("Right(%d) = false", g)
		}
		if gain.Flat(g) != (n == 0) {
			t.Errorf("Flat(%d) = %t", g, n != 0)
		}
	}
	for _, g := range wrongGains() {
		if gain.Right(g) {
			t.Errorf("Right(%d) = true", g)
		}
		if gain.Flat(g) {
			t.Errorf("Flat(%d) = true", g)
		}
	}
	for k := range 4 {
		for _, v := range []int{-1, 4, math.MinInt, math.MaxInt} {
			var g [4]int
			g[k] = v
			if gain.Right(g) || gain.Flat(g) {
				t.Errorf("of %d: Right %t, Flat %t; want neither", g, gain.Right(g), gain.Flat(g))
			}
		}
	}
}

// Promise 7.1, At: each place's gain, and none beyond.
func TestAt(t *testing.T) {
	for _, g := range allGains() {
		for i := range 16 {
			if got := gain.At(g, i); got != g[i/4] {
				t.Errorf("At(%d, %d) = %d; want %d", g, i, got, g[i/4])
			}
		}
		for _, i := range []int{math.MinInt, -16, -4, -3, -1, 16, 17, 20, 64, math.MaxInt} {
			if got := gain.At(g, i); got != 0 {
				t.Errorf("At(%d, %d) = %d; want 0", g, i, got)
			}
		}
	}
	for _, g := range wrongGains() {
		for i := -2; i < 18; i++ {
			if got := gain.At(g, i); got != 0 {
				t.Errorf("At(%d, %d) = %d; want 0", g, i, got)
			}
		}
	}
}

// Promise 7.2: some, by their numbers.
func TestUpDownKnown(t *testing.T) {
	b := api.Block{-9, -8, -7, -6, -5, -4, -3, -2, -1, 0, 1, 2, 3, 4, 5, 6}
	for _, x := range []struct {
		g        [4]int
		up, down api.Block
	}{
		{[4]int{}, b, b},
		{
			[4]int{0, 1, 2, 3},
			api.Block{-9, -8, -7, -6, -10, -8, -6, -4, -4, 0, 4, 8, 24, 32, 40, 48},
			api.Block{-9, -8, -7, -6, -2, -2, -1, -1, 0, 0, 0, 1, 0, 1, 1, 1},
		},
		{
			[4]int{3, 2, 1, 0},
			api.Block{-72, -64, -56, -48, -20, -16, -12, -8, -2, 0, 2, 4, 3, 4, 5, 6},
			api.Block{-1, -1, -1, -1, -1, -1, -1, 0, 0, 0, 1, 1, 3, 4, 5, 6},
		},
	} {
		if got := gain.Up(b, x.g); got != x.up {
			t.Errorf("Up(%d, %d) = %d; want %d", b, x.g, got, x.up)
		}
		if got := gain.Down(b, x.g); got != x.down {
			t.Errorf("Down(%d, %d) = %d; want %d", b, x.g, got, x.down)
		}
	}
}

// Promise 7.2: any numbers, with all gains that may be. What is louder by any of them is quiet again by them.
func TestUpDownAny(t *testing.T) {
	c := chance(3)
	for _, g := range allGains() {
		for _, top := range tops() {
			b := c.block(top)
			u, d := gain.Up(b, g), gain.Down(b, g)
			for i, v := range b {
				if want := times(v, g[i/4]); u[i] != want {
					t.Errorf("Up(%d, %d) has %d at %d; want %d", b, g, u[i], i, want)
				}
				if want := parted(v, g[i/4]); d[i] != want {
					t.Errorf("Down(%d, %d) has %d at %d; want %d", b, g, d[i], i, want)
				}
			}
			if got := gain.Down(u, g); got != b {
				t.Errorf("louder by %d, and quiet again, %d is %d", g, b, got)
			}
		}
	}
}

// Promise 7.2, Down: the numbers about each half, and both bounds, with each gain.
func TestDownHalves(t *testing.T) {
	for power := range 4 {
		g := [4]int{power, power, power, power}
		for _, v := range []int64{-bound, 0, bound - 64} {
			for more := int64(0); more <= 64; more += 16 {
				var b api.Block
				for i := range b {
					b[i] = min(v+more+int64(i), bound)
				}
				for i, got := range gain.Down(b, g) {
					if want := parted(b[i], power); got != want {
						t.Errorf("%d, quiet by %d, is %d; want %d", b[i], power, got, want)
					}
				}
			}
		}
	}
}

// Promises 7.1 and 7.2: gains that may not be are 0 at each place; so nothing is louder by them, and nothing quieter.
func TestUpDownWrong(t *testing.T) {
	c := chance(4)
	for _, g := range wrongGains() {
		b := c.block(bound)
		if got := gain.Up(b, g); got != b {
			t.Errorf("Up(%d, %d) = %d; want no change", b, g, got)
		}
		if got := gain.Down(b, g); got != b {
			t.Errorf("Down(%d, %d) = %d; want no change", b, g, got)
		}
	}
}

// Promise 7.1: of samples beyond there is an end, and no panic.
func TestWrong(t *testing.T) {
	far := []int64{least, least + 1, -1 << 62, -bound - 1, -1, 0, 1, bound + 1, 1 << 61, 1 << 62, most - 1, most}
	c := chance(5)
	for range 2000 {
		var b api.Block
		for i := range b {
			b[i] = far[c.below(len(far))]
		}
		g := gain.Of(b)
		if !gain.Right(g) {
			t.Errorf("Of(%d) = %d, which may not be", b, g)
		}
		for _, g := range append(wrongGains(), g) {
			gain.Up(b, g)
			gain.Down(b, g)
		}
	}
}

// Rule R3: what is handed in is as it was.
func TestHandedIn(t *testing.T) {
	b := api.Block{1, 2, 3, 15: -400}
	g := [4]int{3, 2, 1, 0}
	wasBlock, wasGains := b, g
	gain.Of(b)
	gain.Up(b, g)
	gain.Down(b, g)
	gain.At(g, 3)
	if b != wasBlock || g != wasGains {
		t.Error(b, g)
	}
}
