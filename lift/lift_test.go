package lift_test

import (
	"math"
	"math/big"
	"slices"
	"testing"

	"calliope/api"
	"calliope/lift"
	"calliope/table"
)

const (
	least = math.MinInt64
	most  = math.MaxInt64
)

// chance is a row of numbers that look like chance, and are the same in each run.
type chance uint64

func (c *chance) next() uint64 {
	*c = *c*6364136223846793005 + 1442695040888963407
	x := uint64(*c)
	return x ^ x>>29
}

func (c *chance) below(n int) int {
	return int(c.next() >> 33 % uint64(n))
}

// number is one between -2^40 and 2^40, of any length of bits.
func (c *chance) number() int64 {
	v := int64(c.next()>>24) >> c.below(41)
	if c.below(2) == 0 {
		return -v
	}
	return v
}

// turn is one that may be, now and then with a coefficient at its bounds.
func (c *chance) turn() api.Turn {
	return api.Turn{P: c.coefficient(), U: c.coefficient()}
}

func (c *chance) coefficient() int64 {
	switch c.below(8) {
	case 0:
		return 0
	case 1:
		return 1 << 14
	}
	return int64(c.below(1<<14 + 1))
}

func (c *chance) turns() [8]api.Turn {
	var all [8]api.Turn
	for k := range all {
		all[k] = c.turn()
	}
	return all
}

func (c *chance) list(length int) []int64 {
	l := make([]int64, length)
	for i := range l {
		l[i] = c.number()
	}
	return l
}

// numbers are those at the bounds, around 0, and around halves.
func numbers() []int64 {
	l := []int64{0}
	for _, v := range []int64{1, 2, 3, 7, 8, 16, 31, 32, 1000, 8191, 8192, 8193, 16383, 16384, 16385, 1 << 39, 1<<40 - 1, 1 << 40} {
		l = append(l, v, -v)
	}
	return l
}

// turns are all of the table's, and some at the bounds of what may be.
func turns() []api.Turn {
	all := table.Turns()
	l := all[:]
	for _, p := range []int64{0, 1, 8191, 8192, 8193, 16383, 16384} {
		for _, u := range []int64{0, 1, 8191, 8192, 8193, 16383, 16384} {
			l = append(l, api.Turn{P: p, U: u})
		}
	}
	return l
}

// nearest is a product, divided by 2^14, and a half more, downwards: by another way than the program's.
func nearest(v, coefficient int64) int64 {
	product := new(big.Int).Mul(big.NewInt(v), big.NewInt(coefficient))
	product.Add(product, big.NewInt(1<<13))
	return new(big.Int).Div(product, big.NewInt(1<<14)).Int64()
}

// turned is the chapter's words of a turn.
func turned(a, b int64, t api.Turn) (int64, int64) {
	first := a + nearest(b, t.P)
	second := b - nearest(first, t.U)
	return first + nearest(second, t.P), second
}

// turnedBack is the chapter's three steps, the last first, each taken back.
func turnedBack(a, b int64, t api.Turn) (int64, int64) {
	second := a - nearest(b, t.P)
	first := b + nearest(second, t.U)
	return second - nearest(first, t.P), first
}

// Words: the greatest number that is turned.
func TestMax(t *testing.T) {
	if int64(lift.Max) != 1099511627776 {
		t.Error(int64(lift.Max))
	}
}

// Promise 5.1, Turn: some, by their numbers.
func TestTurnKnown(t *testing.T) {
	for _, x := range []struct {
		a, b         int64
		t            api.Turn
		wantA, wantB int64
	}{
		{1000, 0, api.Turn{P: 512, U: 1023}, 998, -62},
		{0, 1000, api.Turn{P: 512, U: 1023}, 62, 998},
		{-1000, 0, api.Turn{P: 512, U: 1023}, -998, 62},
		{0, 0, api.Turn{P: 7680, U: 12593}, 0, 0},
		{5, -7, api.Turn{}, 5, -7},
		{5, -7, api.Turn{P: 1 << 14}, -9, -7},
		{5, -7, api.Turn{U: 1 << 14}, 5, -12},
		{5, -7, api.Turn{P: 1 << 14, U: 1 << 14}, -7, -5},
		{0, 1, api.Turn{P: 1 << 13}, 2, 1},   // a half, upwards, twice
		{0, -1, api.Turn{P: 1 << 13}, 0, -1}, // minus a half, upwards
		{0, 1, api.Turn{P: 1<<13 - 1}, 0, 1}, // less than a half
		{0, -1, api.Turn{P: 1<<13 + 1}, -2, -1},
		{1, 0, api.Turn{U: 1 << 13}, 1, -1},
		{-1, 0, api.Turn{U: 1 << 13}, -1, 0},
		{3, 0, api.Turn{U: 1 << 13}, 3, -2},  // one and a half, upwards
		{-3, 0, api.Turn{U: 1 << 13}, -3, 1}, // minus one and a half, upwards
		{1 << 40, 1 << 40, api.Turn{P: 1 << 14, U: 1 << 14}, 1 << 40, -1 << 40},
		{-1 << 40, -1 << 40, api.Turn{P: 1 << 14, U: 1 << 14}, -1 << 40, 1 << 40},
		{1 << 40, -1 << 40, api.Turn{P: 1 << 14, U: 1 << 14}, -1 << 40, -1 << 40},
	} {
		if a, b := lift.Turn(x.a, x.b, x.t); a != x.wantA || b != x.wantB {
			t.Errorf("Turn(%d, %d, %v) = %d, %d; want %d, %d", x.a, x.b, x.t, a, b, x.wantA, x.wantB)
		}
		if a, b := lift.Back(x.wantA, x.wantB, x.t); a != x.a || b != x.b {
			t.Errorf("Back(%d, %d, %v) = %d, %d; want %d, %d", x.wantA, x.wantB, x.t, a, b, x.a, x.b)
		}
	}
}

// Promise 5.1, Back: some, by their numbers, that no turn told.
func TestBackKnown(t *testing.T) {
	for _, x := range []struct {
		a, b         int64
		t            api.Turn
		wantA, wantB int64
	}{
		{1000, 0, api.Turn{P: 512, U: 1023}, 998, 62},
		{0, 1000, api.Turn{P: 512, U: 1023}, -62, 998},
		{5, -7, api.Turn{}, 5, -7},
		{5, -7, api.Turn{P: 1 << 14}, 19, -7},
		{5, -7, api.Turn{U: 1 << 14}, 5, -2},
		{0, 1, api.Turn{P: 1 << 13}, -2, 1},
		{0, -1, api.Turn{P: 1 << 13}, 0, -1},
		{1, 0, api.Turn{U: 1 << 13}, 1, 1},
		{-1, 0, api.Turn{U: 1 << 13}, -1, 0},
		{1 << 40, 1 << 40, api.Turn{P: 1 << 14, U: 1 << 14}, -1 << 40, 1 << 40},
		{-1 << 40, 1 << 40, api.Turn{P: 1 << 14, U: 1 << 14}, -1 << 40, -1 << 40},
	} {
		if a, b := lift.Back(x.a, x.b, x.t); a != x.wantA || b != x.wantB {
			t.Errorf("Back(%d, %d, %v) = %d, %d; want %d, %d", x.a, x.b, x.t, a, b, x.wantA, x.wantB)
		}
	}
}

// wantTurns holds both ways of one turn against another way, and against one another.
func wantTurns(t *testing.T, a, b int64, turn api.Turn) {
	t.Helper()
	wantA, wantB := turned(a, b, turn)
	gotA, gotB := lift.Turn(a, b, turn)
	if gotA != wantA || gotB != wantB {
		t.Errorf("Turn(%d, %d, %v) = %d, %d; want %d, %d", a, b, turn, gotA, gotB, wantA, wantB)
	}
	if x, y := lift.Back(gotA, gotB, turn); x != a || y != b {
		t.Errorf("turned by %v and back, %d, %d is %d, %d", turn, a, b, x, y)
	}
	wantA, wantB = turnedBack(a, b, turn)
	gotA, gotB = lift.Back(a, b, turn)
	if gotA != wantA || gotB != wantB {
		t.Errorf("Back(%d, %d, %v) = %d, %d; want %d, %d", a, b, turn, gotA, gotB, wantA, wantB)
	}
	if x, y := lift.Turn(gotA, gotB, turn); x != a || y != b {
		t.Errorf("turned back by %v and again, %d, %d is %d, %d", turn, a, b, x, y)
	}
}

// Promises 5.1 and 5.3: each two of the edges, by each turn of the edges.
func TestTurnEdges(t *testing.T) {
	for _, turn := range turns() {
		for _, a := range numbers() {
			for _, b := range numbers() {
				wantTurns(t, a, b, turn)
			}
		}
	}
}

// Promises 5.1 and 5.3: numbers and turns of any size.
func TestTurnAny(t *testing.T) {
	c := chance(1)
	for range 50000 {
		wantTurns(t, c.number(), c.number(), c.turn())
	}
}

// Promise 5.1, Right: at the bounds of each coefficient, with the other one right and wrong.
func TestRight(t *testing.T) {
	right := []int64{0, 1, 512, 8192, 16383, 16384}
	wrong := []int64{-1, -512, -16384, 16385, 1 << 15, 1 << 32, -1 << 32, 1<<32 + 1, least, least + 1, most}
	for _, p := range append(slices.Clone(right), wrong...) {
		for _, u := range append(slices.Clone(right), wrong...) {
			want := slices.Contains(right, p) && slices.Contains(right, u)
			if got := lift.Right(api.Turn{P: p, U: u}); got != want {
				t.Errorf("Right(%d, %d) = %t", p, u, got)
			}
		}
	}
	for k, turn := range table.Turns() {
		if !lift.Right(turn) {
			t.Errorf("the table's turn %d may not be", k)
		}
	}
}

// Promise 5.1: of other numbers, and of turns that may not be, there is an end, and no panic.
func TestTurnWrong(t *testing.T) {
	far := []int64{least, least + 1, -1<<50 - 1, -1<<40 - 1, -1, 0, 1, 1<<40 + 1, 1<<50 + 1, most - 1, most}
	for _, p := range far {
		for _, u := range far {
			turn := api.Turn{P: p, U: u}
			pairs := lift.New([8]api.Turn{turn, turn})
			for _, a := range far {
				for _, b := range far {
					lift.Turn(a, b, turn)
					lift.Back(a, b, turn)
					pairs.Turn([]int64{a, b}, []int64{b, a})
					pairs.Back([]int64{a, b}, []int64{b, a})
				}
			}
		}
	}
}

// wantPairs holds the pairs of two lists against the k-th turn of the k-th numbers, and what lies behind them against what it was.
func wantPairs(t *testing.T, a, b []int64, all [8]api.Turn) {
	t.Helper()
	turnedA, turnedB := slices.Clone(a), slices.Clone(b)
	backA, backB := slices.Clone(a), slices.Clone(b)
	for k, turn := range all {
		if k < len(a) && k < len(b) {
			turnedA[k], turnedB[k] = turned(a[k], b[k], turn)
			backA[k], backB[k] = turnedBack(a[k], b[k], turn)
		}
	}
	p := lift.New(all)
	x, y := slices.Clone(a), slices.Clone(b)
	p.Turn(x, y)
	wantLists(t, "Turn", x, y, turnedA, turnedB)
	p.Back(x, y)
	wantLists(t, "Turn and Back", x, y, a, b)
	p.Back(x, y)
	wantLists(t, "Back", x, y, backA, backB)
	p.Turn(x, y)
	wantLists(t, "Back and Turn", x, y, a, b)
}

func wantLists(t *testing.T, name string, a, b, wantA, wantB []int64) {
	t.Helper()
	if !slices.Equal(a, wantA) || !slices.Equal(b, wantB) {
		t.Errorf("%s: %d, %d; want %d, %d", name, a, b, wantA, wantB)
	}
}

// Promises 5.2 and 5.3: lists of each two lengths, as far as both go and no further than 8.
func TestPairs(t *testing.T) {
	c := chance(2)
	for lengthA := range 20 {
		for lengthB := range 20 {
			wantPairs(t, c.list(lengthA), c.list(lengthB), table.Turns())
			wantPairs(t, c.list(lengthA), c.list(lengthB), c.turns())
		}
	}
	wantPairs(t, c.list(1000), c.list(1000), c.turns())
}

// Promise 5.2: each pair has a turn of its own.
func TestPairsTurns(t *testing.T) {
	a, b := slices.Repeat([]int64{1 << 14}, 9), make([]int64, 9)
	lift.New([8]api.Turn{{U: 0}, {U: 1}, {U: 2}, {U: 3}, {U: 4}, {U: 5}, {U: 6}, {U: 7}}).Turn(a, b)
	wantLists(t, "Turn", a, b, slices.Repeat([]int64{1 << 14}, 9), []int64{0, -1, -2, -3, -4, -5, -6, -7, 0})
	lift.New([8]api.Turn{{P: 7}, {P: 6}, {P: 5}, {P: 4}, {P: 3}, {P: 2}, {P: 1}, {P: 0}}).Back(b, a)
	wantLists(t, "Back", b, a, []int64{-14, -13, -12, -11, -10, -9, -8, -7, 0}, slices.Repeat([]int64{1 << 14}, 9))
}

// Promise 5.2: no list, or an empty one, has no pair.
func TestPairsNone(t *testing.T) {
	p := lift.New(table.Turns())
	l := []int64{1000, 2000}
	for _, none := range [][]int64{nil, {}} {
		p.Turn(none, none)
		p.Back(none, none)
		p.Turn(l, none)
		p.Turn(none, l)
		p.Back(l, none)
		p.Back(none, l)
	}
	if l[0] != 1000 || l[1] != 2000 {
		t.Error(l)
	}
}

// Promise 5.2: what lies behind a list's end is left alone, though there be room.
func TestPairsRoom(t *testing.T) {
	a, b := slices.Repeat([]int64{5000}, 8), slices.Repeat([]int64{7000}, 8)
	p := lift.New(table.Turns())
	p.Turn(a[:3], b[:5])
	for k := range 8 {
		if changed := a[k] != 5000 || b[k] != 7000; changed != (k < 3) {
			t.Errorf("%d: %d, %d", k, a[k], b[k])
		}
	}
}

// Promise 5.2: the turns are those that were handed in, whatever becomes of them; and pairs are the same each time.
func TestPairsKeep(t *testing.T) {
	all := table.Turns()
	p := lift.New(all)
	clear(all[:])
	for range 2 {
		a, b := []int64{1000}, []int64{0}
		p.Turn(a, b)
		wantLists(t, "Turn", a, b, []int64{998}, []int64{-62})
	}
}

// Promise 5.2: pairs that nobody made have turns that change nothing.
func TestPairsNobodyMade(t *testing.T) {
	var p lift.Pairs
	a, b := []int64{1 << 40, -5}, []int64{-1 << 40, 9}
	p.Turn(a, b)
	p.Back(a, b)
	wantLists(t, "none", a, b, []int64{1 << 40, -5}, []int64{-1 << 40, 9})
}

// Promise 5.3: lists that overlap are found again too, for the pairs are taken back the last first.
func TestPairsOverlap(t *testing.T) {
	c := chance(3)
	p := lift.New(table.Turns())
	for off := 1; off < 10; off++ {
		was := c.list(20)
		l := slices.Clone(was)
		p.Turn(l, l[off:])
		p.Back(l, l[off:])
		p.Back(l[off:], l)
		p.Turn(l[off:], l)
		if !slices.Equal(l, was) {
			t.Errorf("%d apart: %d; want %d", off, l, was)
		}
	}
}

// Promise 5.2, Flip: of none, one, and more, of even and odd lengths.
func TestFlip(t *testing.T) {
	for _, x := range []struct{ l, want []int64 }{
		{nil, nil},
		{[]int64{}, nil},
		{[]int64{7}, []int64{7}},
		{[]int64{1, 2}, []int64{2, 1}},
		{[]int64{1, 2, 3}, []int64{3, 2, 1}},
		{[]int64{4, 4, -1, 0}, []int64{0, -1, 4, 4}},
		{[]int64{least, 0, most}, []int64{most, 0, least}},
	} {
		if got := lift.Flip(x.l); !slices.Equal(got, x.want) {
			t.Errorf("Flip(%d) = %d; want %d", x.l, got, x.want)
		}
	}
	c := chance(4)
	for length := range 100 {
		l := c.list(length)
		got := lift.Flip(l)
		if len(got) != length {
			t.Fatal(len(got), length)
		}
		for i, v := range got {
			if v != l[length-1-i] {
				t.Errorf("of %d: %d at %d", length, v, i)
			}
		}
	}
}

// Rules R3: what Flip is handed is not changed, and what it answers is new memory.
func TestFlipIsNew(t *testing.T) {
	l := []int64{1, 2, 3, 4}
	got := lift.Flip(l[:3])
	if !slices.Equal(l, []int64{1, 2, 3, 4}) {
		t.Error(l)
	}
	clear(got)
	_ = append(got, 9)
	if !slices.Equal(l, []int64{1, 2, 3, 4}) {
		t.Error(l)
	}
	one := []int64{7}
	lift.Flip(one)[0] = 8
	if one[0] != 7 {
		t.Error(one)
	}
}
