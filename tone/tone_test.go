package tone_test

import (
	"math"
	"math/big"
	"slices"
	"testing"

	"calliope/api"
	"calliope/tone"
)

const (
	least = math.MinInt64
	most  = math.MaxInt64
	bound = 1 << 40 // of the numbers that are promised
)

// chance is a row of numbers that look like chance, and are the same in each run.
type chance uint64

func (c *chance) next() uint64 {
	*c = *c*6364136223846793005 + 1442695040888963407
	x := uint64(*c)
	return x ^ x>>29
}

func (c *chance) below(n int) int {
	return int(c.next() >> 33 % uint64(n))
}

// number is one between -top and top, both among them.
func (c *chance) number(top int64) int64 {
	switch c.below(8) {
	case 0:
		return top
	case 1:
		return -top
	case 2:
		return 0
	}
	return int64(c.next()>>1%uint64(2*top+1)) - top
}

// block is a spectrum whose numbers are great and small, so that some stand out, and some just don't.
func (c *chance) block(top int64) api.Block {
	var b api.Block
	for band := range 4 {
		loud := c.number(top)
		for k := range 4 {
			b[4*band+k] = c.number(max(loud, -loud)/8 + int64(c.below(2)))
		}
		if c.below(5) > 0 {
			b[4*band+c.below(4)] = loud
		}
	}
	return b
}

// tones are so many, at places that there are, and at some that there are not.
func (c *chance) tones(n int) []api.Tone {
	var l []api.Tone
	for range n {
		l = append(l, api.Tone{Index: c.below(20) - 2, Value: c.number(bound >> c.below(40))})
	}
	return l
}

// tops are how great the numbers of spectra are.
func tops() []int64 {
	l := []int64{63, 65, 71, 72, 73, 100, 519, 520, 521, 32767, bound - 1}
	for top := int64(1); top <= bound; top *= 2 {
		l = append(l, top)
	}
	return l
}

// beyond are places that there are not.
func beyond() []int {
	return []int{-1, -2, -4, -15, -16, 16, 17, 19, 20, 31, 32, 64, 256, 1 << 32, -1 << 32, 1<<32 + 5, math.MinInt, math.MinInt + 1, math.MaxInt - 1, math.MaxInt}
}

// abs is a number without its sign.
func abs(v int64) int64 {
	if v < 0 {
		return -v
	}
	return v
}

// stands tells whether a place is a tone, by another way than the program's: the others are made greater, and nothing is rounded.
func stands(b api.Block, i int) bool {
	if abs(b[i]) < 64 {
		return false
	}
	for j := range 16 {
		if j != i && j/4 == i/4 && 8*abs(b[j]) > abs(b[i]) {
			return false
		}
	}
	return true
}

// found are a spectrum's tones, by another way than the program's: a tone is left out if two others come ahead of it.
func found(b api.Block) []api.Tone {
	var l []api.Tone
	for i := range 16 {
		ahead := 0
		for j := range 16 {
			if stands(b, j) && (abs(b[j]) > abs(b[i]) || abs(b[j]) == abs(b[i]) && j < i) {
				ahead++
			}
		}
		if stands(b, i) && ahead < 2 {
			l = append(l, api.Tone{Index: i, Value: b[i]})
		}
	}
	return l
}

// sums are a spectrum and tones so many times, by numbers of any length.
func sums(b api.Block, l []api.Tone, times int64) [16]*big.Int {
	var s [16]*big.Int
	for i, v := range b {
		s[i] = big.NewInt(v)
		for _, t := range l {
			if t.Index == i {
				s[i].Add(s[i], new(big.Int).Mul(big.NewInt(times), big.NewInt(t.Value)))
			}
		}
	}
	return s
}

func wantIs(t *testing.T, b api.Block, i int, want bool) {
	t.Helper()
	if got := tone.Is(b, i); got != want {
		t.Errorf("Is(%d, %d) = %t; want %t", b, i, got, want)
	}
}

func wantFind(t *testing.T, b api.Block, want ...api.Tone) {
	t.Helper()
	if got := tone.Find(b); !slices.Equal(got, want) {
		t.Errorf("Find(%d) = %d; want %d", b, got, want)
	}
}

// wantSums holds In and Out against sums of any length.
func wantSums(t *testing.T, b api.Block, l []api.Tone) {
	t.Helper()
	in, out := tone.In(b, l...), tone.Out(b, l...)
	more, less := sums(b, l, 1), sums(b, l, -1)
	for i := range 16 {
		if more[i].Cmp(big.NewInt(in[i])) != 0 {
			t.Errorf("In(%d, %d) has %d at %d; want %d", b, l, in[i], i, more[i])
		}
		if less[i].Cmp(big.NewInt(out[i])) != 0 {
			t.Errorf("Out(%d, %d) has %d at %d; want %d", b, l, out[i], i, less[i])
		}
	}
}

func TestConstants(t *testing.T) {
	if tone.Ratio != 8 || tone.Least != 64 {
		t.Error(tone.Ratio, tone.Least)
	}
}

// The example of the chapter.
func TestExample(t *testing.T) {
	wantFind(t, api.Block{5: 1000}, api.Tone{Index: 5, Value: 1000})
	for i := range 16 {
		wantIs(t, api.Block{5: 1000}, i, i == 5)
	}
}

// Promise 11.1, Is: some, by their numbers.
func TestIsKnown(t *testing.T) {
	b := api.Block{0: 640, 1: 80, 5: 1000, 6: 125, 9: 63, 12: -800, 13: 100}
	for i := range 16 {
		wantIs(t, b, i, i == 0 || i == 5 || i == 12)
	}
	b = api.Block{0: 640, 1: 81, 5: 1000, 6: -126, 9: 64, 12: -800, 13: -100, 14: 101}
	for i := range 16 {
		wantIs(t, b, i, i == 9)
	}
}

// Promise 11.1, Is: a number alone, at each place, about the least that a tone is, and about each power of two.
func TestIsAlone(t *testing.T) {
	for i := range 16 {
		for v := int64(-200); v <= 200; v++ {
			var b api.Block
			b[i] = v
			wantIs(t, b, i, v >= 64 || v <= -64)
		}
		for power := range 41 {
			for more := int64(-1); more <= 1; more++ {
				var b api.Block
				b[i] = min(bound, 1<<power+more)
				want := b[i] >= 64
				wantIs(t, b, i, want)
				b[i] = -b[i]
				wantIs(t, b, i, want)
			}
		}
	}
}

// Promise 11.1, Is: each other place with each number about an eighth: just those of its band stand in its way, with either sign.
func TestIsNeighbours(t *testing.T) {
	values := []int64{1 << 20, 1<<20 + 7, bound - 1, bound}
	for v := int64(64); v <= 96; v++ {
		values = append(values, v, 500+v)
	}
	for i := range 16 {
		for j := range 16 {
			if i == j {
				continue
			}
			for _, v := range values {
				wantNeighbour(t, i, j, v)
			}
		}
	}
}

// wantNeighbour holds a number at one place against numbers about its eighth at another one.
func wantNeighbour(t *testing.T, i, j int, v int64) {
	t.Helper()
	for more := int64(-2); more <= 2; more++ {
		other := v/8 + more
		want := i/4 != j/4 || more <= 0
		for _, signs := range [][2]int64{{1, 1}, {1, -1}, {-1, 1}, {-1, -1}} {
			var b api.Block
			b[i], b[j] = signs[0]*v, signs[1]*other
			wantIs(t, b, i, want)
		}
	}
}

// Promise 11.1, Is: of two alike ones in a band none is a tone; in two bands both are.
func TestIsAlike(t *testing.T) {
	for i := range 16 {
		for j := range 16 {
			if i == j {
				continue
			}
			for _, v := range []int64{64, 1000, bound} {
				var b api.Block
				b[i], b[j] = v, -v
				wantIs(t, b, i, i/4 != j/4)
				wantIs(t, b, j, i/4 != j/4)
			}
		}
	}
}

// Promise 11.1, Is: any spectrum.
func TestIsAny(t *testing.T) {
	c := chance(1)
	tones := 0
	for _, top := range tops() {
		for range 400 {
			b := c.block(top)
			for i := range 16 {
				wantIs(t, b, i, stands(b, i))
				if stands(b, i) {
					tones++
				}
			}
		}
	}
	if tones < 5000 {
		t.Errorf("just %d tones", tones)
	}
}

// Promise 11.1, Is: false of places that there are not, whatever the spectrum.
func TestIsBeyond(t *testing.T) {
	for _, b := range []api.Block{{}, {1000}, {3: 1000, 4: 1000, 8: 1000, 15: 1000}, {0: bound, 15: -bound}} {
		for _, i := range beyond() {
			wantIs(t, b, i, false)
		}
	}
}

// Promise 11.1, Find: none.
func TestFindNone(t *testing.T) {
	wantFind(t, api.Block{})
	wantFind(t, api.Block{63, 0, 0, 0, -63, 0, 0, 0, 63, 0, 0, 0, -63})
	wantFind(t, api.Block{500, 500, 500, 500, 500, 500, 500, 500, 500, 500, 500, 500, 500, 500, 500, 500})
	wantFind(t, api.Block{1000, 126, 0, 0, 0, 1000, -126, 0, 0, 0, 1000, 126, -126, 0, 0, -1000})
}

// Promise 11.1, Find: one alone, at each place, with its number and its sign.
func TestFindOne(t *testing.T) {
	for i := range 16 {
		for _, v := range []int64{64, -64, 65, 1000, -8388609, bound, -bound} {
			var b api.Block
			b[i] = v
			wantFind(t, b, api.Tone{Index: i, Value: v})
		}
	}
}

// Promise 11.1, Find: what doesn't stand out of its band is none, however great it is.
func TestFindBesideGreater(t *testing.T) {
	b := api.Block{0: bound, 3: bound / 8, 5: -64, 9: 100, 10: 12, 14: -30000, 15: -29999}
	wantFind(t, b, api.Tone{Index: 0, Value: bound}, api.Tone{Index: 9, Value: 100})
	b[1] = 1 - bound/4
	wantFind(t, b, api.Tone{Index: 5, Value: -64}, api.Tone{Index: 9, Value: 100})
	b[10] = 13
	wantFind(t, b, api.Tone{Index: 5, Value: -64})
}

// Promise 11.1, Find: the greatest two of up to four, in each order of how great they are, alike ones and both signs among them, in the order of their places.
func TestFindOrders(t *testing.T) {
	sizes := []int64{0, 64, -64, 65, -65, 66, -3000, 3000, -bound, bound}
	for _, v := range sizes {
		for _, w := range sizes {
			for _, x := range sizes {
				for _, y := range sizes {
					b := api.Block{1: v, 4: w, 11: x, 14: y}
					wantFind(t, b, found(b)...)
				}
			}
		}
	}
}

// Promise 11.1, Find: of alike ones those that come first; some by their numbers.
func TestFindAlike(t *testing.T) {
	wantFind(t, api.Block{2: 70, 5: -70, 8: 70, 15: 70}, api.Tone{Index: 2, Value: 70}, api.Tone{Index: 5, Value: -70})
	wantFind(t, api.Block{2: 70, 5: 71, 8: -70, 15: 70}, api.Tone{Index: 2, Value: 70}, api.Tone{Index: 5, Value: 71})
	wantFind(t, api.Block{2: 70, 5: 70, 8: 70, 15: -71}, api.Tone{Index: 2, Value: 70}, api.Tone{Index: 15, Value: -71})
	wantFind(t, api.Block{2: 70, 5: -71, 8: 70, 15: 72}, api.Tone{Index: 5, Value: -71}, api.Tone{Index: 15, Value: 72})
	wantFind(t, api.Block{2: -72, 5: 70, 8: 71, 15: 71}, api.Tone{Index: 2, Value: -72}, api.Tone{Index: 8, Value: 71})
	wantFind(t, api.Block{0: 640, 5: 1000, 12: -800}, api.Tone{Index: 5, Value: 1000}, api.Tone{Index: 12, Value: -800})
}

// Promise 11.1, Find: any spectrum.
func TestFindAny(t *testing.T) {
	c := chance(2)
	var counts [3]int
	for _, top := range tops() {
		for range 400 {
			b := c.block(top)
			want := found(b)
			wantFind(t, b, want...)
			counts[len(want)]++
		}
	}
	for n, count := range counts {
		if count < 500 {
			t.Errorf("just %d spectra of %d tones", count, n)
		}
	}
}

// Promise 11.2: no tones, and one at each place.
func TestOutInOne(t *testing.T) {
	c := chance(3)
	for i := range 16 {
		b := c.block(bound)
		if tone.Out(b) != b || tone.In(b) != b || tone.Out(b, nil...) != b || tone.In(b, []api.Tone{}...) != b {
			t.Errorf("%d: without tones %d and %d", b, tone.Out(b), tone.In(b))
		}
		for _, v := range []int64{0, 1, -1, 64, -1000, bound, -bound} {
			wantSums(t, b, []api.Tone{{Index: i, Value: v}})
			wantSums(t, api.Block{}, []api.Tone{{Index: i, Value: v}})
		}
	}
}

// Promise 11.2: some, by their numbers; more than two, out of order, and some at one place.
func TestOutInKnown(t *testing.T) {
	b := api.Block{0: 5, 5: 1000, 15: -7}
	l := []api.Tone{{Index: 15, Value: 3}, {Index: 5, Value: 1000}, {Index: 2, Value: -4}, {Index: 15, Value: 20}}
	if got, want := tone.Out(b, l...), (api.Block{0: 5, 2: 4, 15: -30}); got != want {
		t.Errorf("Out: %d; want %d", got, want)
	}
	if got, want := tone.In(b, l...), (api.Block{0: 5, 2: -4, 5: 2000, 15: 16}); got != want {
		t.Errorf("In: %d; want %d", got, want)
	}
}

// Promise 11.2: tones at places that there are not are passed over, those behind them are not.
func TestOutInBeyond(t *testing.T) {
	c := chance(4)
	for _, place := range beyond() {
		b := c.block(bound)
		far := api.Tone{Index: place, Value: 1000}
		if tone.Out(b, far) != b || tone.In(b, far) != b {
			t.Errorf("a tone at %d has turned %d: %d and %d", place, b, tone.Out(b, far), tone.In(b, far))
		}
		wantSums(t, b, []api.Tone{{Index: 3, Value: 7}, far, {Index: 9, Value: -8}})
	}
}

// Promise 11.2: any tones, in any number.
func TestOutInAny(t *testing.T) {
	c := chance(5)
	for n := range 120 {
		for _, top := range tops() {
			wantSums(t, c.block(top), c.tones(n))
		}
	}
	many := make([]api.Tone, 1<<16)
	for k := range many {
		many[k] = api.Tone{Index: k % 17, Value: bound - int64(k)}
	}
	wantSums(t, c.block(bound), many)
}

// Promise 11.3: what is taken out, and put in again, is as it was, and the other way round.
func TestOutAndIn(t *testing.T) {
	c := chance(6)
	for n := range 40 {
		for _, top := range tops() {
			b, l := c.block(top), c.tones(n)
			if got := tone.In(tone.Out(b, l...), l...); got != b {
				t.Errorf("%d without %d, and with them: %d", b, l, got)
			}
			if got := tone.Out(tone.In(b, l...), l...); got != b {
				t.Errorf("%d with %d, and without them: %d", b, l, got)
			}
		}
	}
}

// Promise 11.3: where tones were found nothing is left of them, and nothing else has turned.
func TestNothingLeft(t *testing.T) {
	c := chance(7)
	for _, top := range tops() {
		for range 400 {
			b := c.block(top)
			l := tone.Find(b)
			want := b
			for _, x := range l {
				want[x.Index] = 0
			}
			rest := tone.Out(b, l...)
			if rest != want || tone.In(rest, l...) != b {
				t.Errorf("%d without %d: %d, and with them %d", b, l, rest, tone.In(rest, l...))
			}
		}
	}
}

// Promise 11.3: a chapter that bounds no tone's value, and no number of tones, has sums that don't fit 64 bits, too; they are taken back all the same.
func TestWrapped(t *testing.T) {
	c := chance(9)
	for _, v := range []int64{most, most - 1, 1 << 62, 1<<62 + 1, -1 << 62, least + 1, least} {
		for i := range 16 {
			b, x := c.block(bound), api.Tone{Index: i, Value: v}
			if got := tone.In(tone.Out(b, x, x, x), x, x, x); got != b {
				t.Errorf("%d without, and with %d: %d", b, x, got)
			}
			if got := tone.Out(tone.In(b, x, x, x), x, x, x); got != b {
				t.Errorf("%d with, and without %d: %d", b, x, got)
			}
		}
	}
}

// Promise P1: of numbers beyond, and tones of any, there is an end, and no panic.
func TestFar(t *testing.T) {
	far := []int64{least, least + 1, -1 << 62, -bound - 1, -1, 0, 1, bound + 1, 1 << 61, 1 << 62, most - 1, most}
	c := chance(8)
	for range 2000 {
		var b api.Block
		for i := range b {
			b[i] = far[c.below(len(far))] * int64(c.below(2))
		}
		for _, i := range append(beyond(), c.below(16)) {
			tone.Is(b, i)
			x := api.Tone{Index: i, Value: far[c.below(len(far))]}
			tone.Out(b, x, x)
			tone.In(b, x, x)
		}
		tone.Out(b, tone.Find(b)...)
	}
}

// Rule R3: what is handed in is as it was, and what is answered is new.
func TestHandedIn(t *testing.T) {
	b := api.Block{0: 900, 5: -1000, 12: 800}
	l := []api.Tone{{Index: 5, Value: -1000}, {Index: 3, Value: 2}, {Index: 99, Value: 7}}
	was, list := b, slices.Clone(l)
	tone.Is(b, 5)
	tone.Find(b)
	tone.Out(b, l...)
	tone.In(b, l...)
	if b != was || !slices.Equal(l, list) {
		t.Error(b, l)
	}
	one, two := tone.Find(b), tone.Find(b)
	one[0] = api.Tone{}
	wantFind(t, b, two...)
	if two[0] != (api.Tone{Index: 0, Value: 900}) || two[1] != (api.Tone{Index: 5, Value: -1000}) {
		t.Error(two)
	}
}
