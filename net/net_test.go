package net_test

import (
	"math"
	"math/big"
	"testing"

	"calliope/api"
	"calliope/net"
	"calliope/num"
)

const (
	least = math.MinInt64
	most  = math.MaxInt64
	bound = 1 << 32 // of the numbers that are promised
)

// chance is a row of numbers that look like chance, and are the same in each run.
type chance uint64

func (c *chance) next() uint64 {
	*c = *c*6364136223846793005 + 1442695040888963407
	x := uint64(*c)
	return x ^ x>>29
}

func (c *chance) below(n int) int {
	return int(c.next() >> 33 % uint64(n))
}

// number is one between -top and top, both among them.
func (c *chance) number(top int64) int64 {
	switch c.below(8) {
	case 0:
		return top
	case 1:
		return -top
	}
	return int64(c.next()>>1%uint64(2*top+1)) - top
}

func (c *chance) block(top int64) api.Block {
	var b api.Block
	for i := range b {
		b[i] = c.number(top)
	}
	return b
}

// tops are how great the numbers of blocks are, up to the bound.
func tops() []int64 {
	l := []int64{0, bound - 1}
	for length := range 33 {
		l = append(l, 1<<length)
	}
	return l
}

// couple is two places, and the number of their turn.
type couple struct{ low, high, turn int }

// table is each round's couples, written out from the chapter's words.
func table() [4][8]couple {
	return [4][8]couple{
		{{0, 1, 0}, {2, 3, 6}, {4, 5, 4}, {6, 7, 2}, {8, 9, 0}, {10, 11, 6}, {12, 13, 4}, {14, 15, 2}},
		{{0, 2, 5}, {1, 3, 0}, {4, 6, 1}, {5, 7, 4}, {8, 10, 5}, {9, 11, 0}, {12, 14, 1}, {13, 15, 4}},
		{{0, 4, 2}, {1, 5, 5}, {2, 6, 0}, {3, 7, 3}, {8, 12, 2}, {9, 13, 5}, {10, 14, 0}, {11, 15, 3}},
		{{0, 8, 7}, {1, 9, 2}, {2, 10, 5}, {3, 11, 0}, {4, 12, 3}, {5, 13, 6}, {6, 14, 1}, {7, 15, 4}},
	}
}

// turns are the table's turns, by their numbers.
func turns() [8][2]int64 {
	return [8][2]int64{
		{512, 1023}, {1536, 3045}, {2560, 4998}, {3584, 6841},
		{4608, 8540}, {5632, 10074}, {6656, 11426}, {7680, 12593},
	}
}

// nearest is a product, divided by 2^14, to the nearest, halves upwards: by another way than the program's.
func nearest(v, coefficient int64) int64 {
	product := new(big.Int).Mul(big.NewInt(v), big.NewInt(coefficient))
	product.Add(product, big.NewInt(1<<13))
	return new(big.Int).Div(product, big.NewInt(1<<14)).Int64()
}

// spectrum is the chapter's words of the spectrum.
func spectrum(b api.Block) api.Block {
	for _, round := range table() {
		for _, c := range round {
			p, u := turns()[c.turn][0], turns()[c.turn][1]
			b[c.low] += nearest(b[c.high], p)
			b[c.high] -= nearest(b[c.low], u)
			b[c.low] += nearest(b[c.high], p)
		}
	}
	return b
}

// whole is the chapter's words of the rounds taken back, the last first.
func whole(b api.Block) api.Block {
	all := table()
	for r := 3; r >= 0; r-- {
		for _, c := range all[r] {
			p, u := turns()[c.turn][0], turns()[c.turn][1]
			b[c.low] -= nearest(b[c.high], p)
			b[c.high] += nearest(b[c.low], u)
			b[c.low] -= nearest(b[c.high], p)
		}
	}
	return b
}

// same is a block of one number alone.
func same(v int64) api.Block {
	var b api.Block
	for i := range b {
		b[i] = v
	}
	return b
}

// only is a block of a number at one place, and of noughts.
func only(i int, v int64) api.Block {
	var b api.Block
	b[i] = v
	return b
}

// Promise 6.1, Forward: some spectra, by their numbers.
func TestForwardKnown(t *testing.T) {
	for _, x := range []struct{ b, want api.Block }{
		{api.Block{}, api.Block{}},
		{
			api.Block{0: 1000},
			api.Block{480, -47, -483, 4, -218, 27, 37, -2, -576, 15, 377, 0, 100, -27, -7, 1},
		},
		{
			api.Block{15: 1000},
			api.Block{13, 93, 11, 22, 23, 273, 56, 385, 11, 290, 14, 338, 49, 280, 294, 630},
		},
		{
			api.Block{5: -1000},
			api.Block{-100, -428, 5, 185, -443, -412, 95, 345, 120, 137, -4, -12, 204, 401, -18, -211},
		},
		{
			same(1),
			api.Block{1, 1, 0, 0, 1, -1, 1, 1, 0, 1, 0, 0, 1, 0, 1, 0},
		},
		{
			api.Block{0, 100, 200, 300, 400, 500, 600, 700, 800, 900, 1000, 1100, 1200, 1300, 1400, 1500},
			api.Block{1910, 716, 699, 205, 1173, 351, 890, 485, 1024, 1081, 385, 274, 1029, -43, 1257, 327},
		},
		{
			same(bound),
			api.Block{
				12749569210, 6043687708, 3155208418, 559167864, 5630675660, -517758814, 4763305665, 2131196995,
				-1166970385, 3111186752, 390658902, 493322922, 2085191228, -7066025, 3247947716, 514960158,
			},
		},
		{
			same(-bound),
			api.Block{
				-12749569209, -6043687708, -3155208418, -559167864, -5630675660, 517758814, -4763305665, -2131196995,
				1166970385, -3111186752, -390658902, -493322922, -2085191228, 7066025, -3247947716, -514960158,
			},
		},
	} {
		if got := net.New().Forward(x.b); got != x.want {
			t.Errorf("Forward(%d) = %d; want %d", x.b, got, x.want)
		}
		if got := net.New().Inverse(x.want); got != x.b {
			t.Errorf("Inverse(%d) = %d; want %d", x.want, got, x.b)
		}
	}
}

// Promise 6.1, Inverse: some, by their numbers, of spectra that no block told.
func TestInverseKnown(t *testing.T) {
	for _, x := range []struct{ b, want api.Block }{
		{api.Block{}, api.Block{}},
		{
			api.Block{0: 1000},
			api.Block{480, 30, 269, 262, 164, 100, 34, 11, 576, 36, 322, 314, 197, 120, 42, 13},
		},
		{
			api.Block{15: 1000},
			api.Block{0, -14, -151, 156, -128, 211, 123, -385, -2, 22, 249, -255, 211, -345, -202, 631},
		},
		{
			api.Block{5: -1000},
			api.Block{-28, 439, -19, 20, 252, -412, 90, -281, -26, 427, -19, 19, 244, -400, 87, -272},
		},
		{
			same(1),
			api.Block{0, 1, 0, 1, 0, 2, 1, 1, 0, -1, 2, 3, 2, 1, 1, 3},
		},
		{
			same(bound),
			api.Block{
				-1369076001, 1864718829, -2435811997, 2071812864, 1012448094, 576470295, 2508569119, 4439979719,
				-359373952, 397612890, 3808245557, 6082176835, 3608325912, 5875648022, 3144310803, 11957867506,
			},
		},
		{
			same(-bound),
			api.Block{
				1369076001, -1864718830, 2435811996, -2071812864, -1012448094, -576470295, -2508569119, -4439979719,
				359373952, -397612890, -3808245557, -6082176835, -3608325912, -5875648022, -3144310803, -11957867506,
			},
		},
	} {
		if got := net.New().Inverse(x.b); got != x.want {
			t.Errorf("Inverse(%d) = %d; want %d", x.b, got, x.want)
		}
	}
}

// wantBlock holds both ways of one block against another way, against one another, and against the bound.
func wantBlock(t *testing.T, b api.Block) {
	t.Helper()
	n := net.New()
	s, w := n.Forward(b), n.Inverse(b)
	if want := spectrum(b); s != want {
		t.Errorf("Forward(%d) = %d; want %d", b, s, want)
	}
	if want := whole(b); w != want {
		t.Errorf("Inverse(%d) = %d; want %d", b, w, want)
	}
	if got := n.Inverse(s); got != b {
		t.Errorf("forward, and back, %d is %d", b, got)
	}
	if got := n.Forward(w); got != b {
		t.Errorf("back, and forward, %d is %d", b, got)
	}
	if greatest, limit := num.Peak(s[:]...), net.Bound(num.Peak(b[:]...)); greatest > limit {
		t.Errorf("the spectrum of %d has %d, above %d", b, greatest, limit)
	}
}

// Promises 6.1 to 6.3: blocks of one number that isn't 0, at each place: so each turn has its place.
func TestBlocksOne(t *testing.T) {
	for i := range api.Hop {
		for _, top := range tops() {
			wantBlock(t, only(i, top))
			wantBlock(t, only(i, -top))
		}
	}
}

// Promises 6.1 to 6.3: blocks whose numbers are all at the bounds, in each row of signs.
func TestBlocksSigns(t *testing.T) {
	for signs := range 1 << 12 {
		var b api.Block
		for i := range b {
			b[i] = bound
			if signs*17>>i&1 == 1 { // 17: so that the four last places change, too
				b[i] = -bound
			}
		}
		wantBlock(t, b)
	}
}

// Promises 6.1 to 6.3: blocks of any numbers, of all lengths.
func TestBlocksAny(t *testing.T) {
	c := chance(1)
	for _, top := range tops() {
		for range 200 {
			wantBlock(t, c.block(top))
		}
	}
}

// Promise 6.2: spectra themselves are blocks, and go both ways, as long as their numbers may be.
func TestBlocksAgain(t *testing.T) {
	c := chance(2)
	n := net.New()
	for range 1000 {
		b := c.block(1 << 15)
		s := n.Forward(n.Forward(n.Forward(b)))
		if got := n.Inverse(n.Inverse(n.Inverse(s))); got != b {
			t.Errorf("three times forward, and back, %d is %d", b, got)
		}
	}
}

// Promise 6.1, Bound: some, and both ends.
func TestBoundKnown(t *testing.T) {
	for _, x := range []struct{ most, want int64 }{
		{0, 160},
		{1, 241},
		{2, 322},
		{10, 970},
		{32768, 2654368},
		{bound - 1, 347892351055},
		{bound, 347892351136},
	} {
		if got := net.Bound(x.most); got != x.want {
			t.Errorf("Bound(%d) = %d; want %d", x.most, got, x.want)
		}
	}
}

// Promise 6.1, Bound: four times three times as much and 4, one by one.
func TestBoundAny(t *testing.T) {
	c := chance(3)
	for range 10000 {
		m := int64(c.next() >> 31 >> c.below(33))
		first := 3*m + 4
		second := 3*first + 4
		third := 3*second + 4
		if got, want := net.Bound(m), 3*third+4; got != want {
			t.Errorf("Bound(%d) = %d; want %d", m, got, want)
		}
	}
}

// Promise 6.1: of other numbers there is an end, and no panic.
func TestWrong(t *testing.T) {
	far := []int64{least, least + 1, -1<<50 - 1, -1<<40 - 1, -bound - 1, -1, bound + 1, 1<<40 + 1, 1<<50 + 1, most - 1, most}
	n := net.New()
	for _, v := range far {
		net.Bound(v)
		n.Forward(same(v))
		n.Inverse(same(v))
		for i := range api.Hop {
			n.Forward(only(i, v))
			n.Inverse(only(i, v))
		}
	}
	c := chance(4)
	for range 1000 {
		var b api.Block
		for i := range b {
			b[i] = far[c.below(len(far))]
		}
		n.Forward(b)
		n.Inverse(b)
	}
}

// Promise 6.1: a net is the same each time, and each net is the same, one that nobody made among them.
func TestNets(t *testing.T) {
	c := chance(5)
	n := net.New()
	var none net.Net
	for range 100 {
		b := c.block(bound)
		s := n.Forward(b)
		if n.Forward(b) != s || net.New().Forward(b) != s || none.Forward(b) != s {
			t.Errorf("nets differ in the spectrum of %d", b)
		}
		if n.Inverse(s) != b || net.New().Inverse(s) != b || none.Inverse(s) != b {
			t.Errorf("nets differ in the block of %d", s)
		}
	}
}

// Rule R3: what is handed in is as it was.
func TestHandedIn(t *testing.T) {
	b := api.Block{1, 2, 3, 15: -4}
	was := b
	n := net.New()
	s := n.Forward(b)
	told := s
	n.Inverse(s)
	if b != was || s != told {
		t.Error(b, s)
	}
}
