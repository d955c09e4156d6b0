package lap_test

import (
	"math"
	"slices"
	"testing"

	"calliope/api"
	"calliope/lap"
	"calliope/lift"
	"calliope/net"
	"calliope/table"
)

const (
	least = math.MinInt64
	most  = math.MaxInt64
	loud  = 1 << 20 // the greatest sample that is promised
	great = 1 << 32 // the greatest number of a spectrum that is promised
)

// chance is a row of numbers that look like chance, and are the same in each run.
type chance uint64

func (c *chance) next() uint64 {
	*c = *c*6364136223846793005 + 1442695040888963407
	x := uint64(*c)
	return x ^ x>>29
}

func (c *chance) below(n int) int {
	return int(c.next() >> 33 % uint64(n))
}

// number is one between -top and top, both among them.
func (c *chance) number(top int64) int64 {
	switch c.below(8) {
	case 0:
		return top
	case 1:
		return -top
	}
	return int64(c.next()>>1%uint64(2*top+1)) - top
}

func (c *chance) list(length int, top int64) []int64 {
	l := make([]int64, length)
	for i := range l {
		l[i] = c.number(top)
	}
	return l
}

func (c *chance) blocks(count int, top int64) []api.Block {
	return inRows(c.list(16*count, top))
}

// gains are some that may be, for so many blocks.
func (c *chance) gains(count int) [][4]int {
	l := make([][4]int, count)
	for i := range l {
		for k := range l[i] {
			l[i][k] = c.below(4)
		}
	}
	return l
}

// tops are how great numbers are, up to a bound.
func tops(bound int64) []int64 {
	l := []int64{bound - 1}
	for top := int64(1); top <= bound; top *= 2 {
		l = append(l, top)
	}
	return l
}

// inRows are numbers as blocks, one by one; there must be just as many as fill them.
func inRows(l []int64) []api.Block {
	blocks := make([]api.Block, len(l)/16)
	for i, v := range l {
		blocks[i/16][i%16] = v
	}
	return blocks
}

// inOne are the numbers of blocks, one by one.
func inOne(l []api.Block) []int64 {
	var all []int64
	for _, b := range l {
		for _, v := range b {
			all = append(all, v)
		}
	}
	return all
}

// filled are numbers, and noughts up to a whole number of blocks.
func filled(l []int64) []int64 {
	l = slices.Clone(l)
	for len(l)%16 != 0 {
		l = append(l, 0)
	}
	return l
}

// turns are the table's turns, by their numbers.
func turns() [8]api.Turn {
	return [8]api.Turn{
		{P: 512, U: 1023}, {P: 1536, U: 3045}, {P: 2560, U: 4998}, {P: 3584, U: 6841},
		{P: 4608, U: 8540}, {P: 5632, U: 10074}, {P: 6656, U: 11426}, {P: 7680, U: 12593},
	}
}

// met is the chapter's words of what is turned where blocks meet, of numbers one by one.
func met(l []int64, way func(a, b int64, t api.Turn) (int64, int64)) []int64 {
	l = slices.Clone(l)
	for edge := 16; edge < len(l); edge += 16 {
		for k, turn := range turns() {
			ahead, behind := edge-16+15-k, edge+k
			l[ahead], l[behind] = way(l[ahead], l[behind], turn)
		}
	}
	return l
}

// gainAt is the gain of a place of samples: 0, where there are no gains, or such as may not be.
func gainAt(gains [][4]int, i int) int {
	if i/16 >= len(gains) {
		return 0
	}
	g := gains[i/16]
	for _, v := range g {
		if v < 0 || v > 3 {
			return 0
		}
	}
	return g[i%16/4]
}

// spectra is the chapter's words of the spectra of samples.
func spectra(l []int64, gains [][4]int) []api.Block {
	l = filled(l)
	for i := range l {
		for range gainAt(gains, i) {
			l[i] *= 2
		}
	}
	blocks := inRows(met(l, lift.Turn))
	for i := range blocks {
		blocks[i] = net.New().Forward(blocks[i])
	}
	return blocks
}

// whole is the chapter's words of the samples of spectra, all of them.
func whole(l []api.Block, gains [][4]int) []int64 {
	blocks := slices.Clone(l)
	for i := range blocks {
		blocks[i] = net.New().Inverse(blocks[i])
	}
	samples := met(inOne(blocks), lift.Back)
	for i, v := range samples {
		samples[i] = quiet(v, gainAt(gains, i))
	}
	return samples
}

// quiet is a number divided by 2 to a power, to the nearest, halves upwards: twice the number and the divisor are divided by twice the divisor, downwards.
func quiet(v int64, power int) int64 {
	divisor := int64(1)
	for range power {
		divisor *= 2
	}
	twice := 2*v + divisor
	quotient := twice / (2 * divisor)
	if twice%(2*divisor) < 0 {
		quotient--
	}
	return quotient
}

// wrongGains are some that may not be.
func wrongGains() [][4]int {
	return [][4]int{
		{-1, 1, 2, 3}, {1, 4, 2, 3}, {1, 2, math.MaxInt, 3}, {1, 2, 3, math.MinInt},
		{64, 64, 64, 64}, {-1, -1, -1, -1}, {3, 3, 3, 256},
	}
}

// far are numbers of which nothing is promised but an end.
func far() []int64 {
	return []int64{least, least + 1, -1 << 62, -1<<40 - 1, -great - 1, -loud - 1, -1, 0, 1, loud + 1, great + 1, 1<<40 + 1, 1 << 62, most - 1, most}
}

// Promise 8.1, Count: all small numbers, counted one by one, and the ends.
func TestCount(t *testing.T) {
	want, room := 0, 0
	for n := range 1000 {
		if n > room {
			want, room = want+1, room+16
		}
		if got := lap.Count(n); got != want {
			t.Errorf("Count(%d) = %d; want %d", n, got, want)
		}
	}
	for _, x := range []struct{ n, want int }{
		{-1, 0}, {-16, 0}, {-17, 0}, {math.MinInt, 0}, {math.MinInt + 1, 0},
		{1 << 20, 1 << 16}, {1<<20 + 1, 1<<16 + 1},
		{math.MaxInt, 1 << 59}, {math.MaxInt - 14, 1 << 59}, {math.MaxInt - 15, 1<<59 - 1},
	} {
		if got := lap.Count(x.n); got != x.want {
			t.Errorf("Count(%d) = %d; want %d", x.n, got, x.want)
		}
	}
}

// Promise 8.1, Blocks: samples of each length, the last block filled up with noughts.
func TestBlocks(t *testing.T) {
	c := chance(1)
	if got := lap.Blocks(nil); len(got) != 0 {
		t.Errorf("Blocks of nothing: %d", got)
	}
	for length := range 100 {
		// What stands behind the list, in the same memory, is none of the samples.
		l := c.list(length+20, loud)[:length]
		got := lap.Blocks(l)
		if want := inRows(filled(l)); !slices.Equal(got, want) {
			t.Errorf("Blocks(%d) = %d; want %d", l, got, want)
		}
		if len(got) != lap.Count(length) {
			t.Errorf("%d samples in %d blocks", length, len(got))
		}
	}
}

// Promise 8.1, Samples: as many as are asked for, and as there are.
func TestSamples(t *testing.T) {
	c := chance(2)
	for count := range 5 {
		l := c.blocks(count, loud)
		all := inOne(l)
		for _, n := range []int{math.MinInt, -100, -16, -1} {
			if got := lap.Samples(l, n); len(got) != 0 {
				t.Errorf("Samples(%d, %d) = %d; want none", l, n, got)
			}
		}
		for n := range len(all) + 20 {
			if got, want := lap.Samples(l, n), all[:min(n, len(all))]; !slices.Equal(got, want) {
				t.Errorf("Samples(%d, %d) = %d; want %d", l, n, got, want)
			}
		}
		for _, n := range []int{1 << 31, math.MaxInt - 15, math.MaxInt} {
			if got := lap.Samples(l, n); !slices.Equal(got, all) {
				t.Errorf("Samples(%d, %d) = %d; want all", l, n, got)
			}
		}
	}
}

// Promise 8.1: samples in blocks are found again.
func TestBlocksSamples(t *testing.T) {
	c := chance(3)
	for length := range 100 {
		l := c.list(length, loud)
		if got := lap.Samples(lap.Blocks(l), length); !slices.Equal(got, l) {
			t.Errorf("%d, in blocks, is %d", l, got)
		}
	}
}

// ramp are so many blocks whose numbers rise by 100.
func ramp(count int) []api.Block {
	l := make([]int64, 16*count)
	for i := range l {
		l[i] = 100 * int64(i)
	}
	return inRows(l)
}

// same are so many blocks of one number alone.
func same(count int, v int64) []api.Block {
	return inRows(slices.Repeat([]int64{v}, 16*count))
}

// Promise 8.1, Join and Part: some, by their numbers.
func TestJoinPartKnown(t *testing.T) {
	p := lap.New()
	for _, x := range []struct{ l, joined, parted []api.Block }{
		{nil, nil, nil},
		{ramp(1), ramp(1), ramp(1)},
		{
			ramp(2),
			[]api.Block{
				{0, 100, 200, 300, 400, 500, 600, 700, 2280, 2180, 2080, 1982, 1884, 1787, 1691, 1597},
				{1503, 1410, 1318, 1225, 1133, 1041, 949, 857, 2400, 2500, 2600, 2700, 2800, 2900, 3000, 3100},
			},
			[]api.Block{
				{0, 100, 200, 300, 400, 500, 600, 700, -1256, -889, -503, -104, 297, 689, 1060, 1397},
				{1691, 1931, 2111, 2227, 2280, 2271, 2204, 2086, 2400, 2500, 2600, 2700, 2800, 2900, 3000, 3100},
			},
		},
		{
			same(3, 1000),
			[]api.Block{
				{1000, 1000, 1000, 1000, 1000, 1000, 1000, 1000, 1409, 1414, 1404, 1374, 1326, 1257, 1169, 1060},
				{936, 797, 647, 491, 332, 174, 19, -129, 1409, 1414, 1404, 1374, 1326, 1257, 1169, 1060},
				{936, 797, 647, 491, 332, 174, 19, -129, 1000, 1000, 1000, 1000, 1000, 1000, 1000, 1000},
			},
			[]api.Block{
				{1000, 1000, 1000, 1000, 1000, 1000, 1000, 1000, -129, 20, 174, 332, 491, 648, 796, 936},
				{1061, 1168, 1257, 1326, 1375, 1403, 1414, 1408, -129, 20, 174, 332, 491, 648, 796, 936},
				{1061, 1168, 1257, 1326, 1375, 1403, 1414, 1408, 1000, 1000, 1000, 1000, 1000, 1000, 1000, 1000},
			},
		},
		{[]api.Block{{15: 1000}, {}}, []api.Block{{15: 998}, {0: -62}}, []api.Block{{15: 998}, {0: 62}}},
		{[]api.Block{{}, {0: 1000}}, []api.Block{{15: 62}, {0: 998}}, []api.Block{{15: -62}, {0: 998}}},
		{[]api.Block{{8: 1000}, {}}, []api.Block{{8: 640}, {7: -769}}, []api.Block{{8: 640}, {7: 769}}},
		{[]api.Block{{}, {7: 1000}}, []api.Block{{8: 769}, {7: 640}}, []api.Block{{8: -769}, {7: 640}}},
		{[]api.Block{{7: 1000}, {}}, []api.Block{{7: 1000}, {}}, []api.Block{{7: 1000}, {}}},
		{[]api.Block{{}, {8: 1000}}, []api.Block{{}, {8: 1000}}, []api.Block{{}, {8: 1000}}},
	} {
		if got := p.Join(x.l); !slices.Equal(got, x.joined) {
			t.Errorf("Join(%d) = %d; want %d", x.l, got, x.joined)
		}
		if got := p.Part(x.l); !slices.Equal(got, x.parted) {
			t.Errorf("Part(%d) = %d; want %d", x.l, got, x.parted)
		}
	}
}

// wantMet holds both ways against the chapter's words, and against one another.
func wantMet(t *testing.T, l []api.Block) {
	t.Helper()
	p := lap.New()
	joined, parted := p.Join(l), p.Part(l)
	if want := inRows(met(inOne(l), lift.Turn)); !slices.Equal(joined, want) {
		t.Errorf("Join(%d) = %d; want %d", l, joined, want)
	}
	if want := inRows(met(inOne(l), lift.Back)); !slices.Equal(parted, want) {
		t.Errorf("Part(%d) = %d; want %d", l, parted, want)
	}
	if got := p.Part(joined); !slices.Equal(got, l) {
		t.Errorf("joined, and parted, %d is %d", l, got)
	}
	if got := p.Join(parted); !slices.Equal(got, l) {
		t.Errorf("parted, and joined, %d is %d", l, got)
	}
}

// Promise 8.1, Join and Part: one number that isn't 0, at each place of three blocks: so each turn has its place.
func TestJoinPartOne(t *testing.T) {
	for i := range 48 {
		for _, v := range []int64{1, -1, 1000, loud, -loud, great, -great} {
			l := make([]int64, 48)
			l[i] = v
			wantMet(t, inRows(l))
		}
	}
}

// Promise 8.1, Join and Part: blocks of any numbers, as many as there may be.
func TestJoinPartAny(t *testing.T) {
	c := chance(4)
	for _, top := range tops(great) {
		for count := range 9 {
			for range 5 {
				wantMet(t, c.blocks(count, top))
			}
		}
	}
	wantMet(t, c.blocks(2000, great))
}

// squares are samples by a rule; the last block has 8.
func squares() []int64 {
	l := make([]int64, 40)
	for i := range l {
		l[i] = int64(i*i*17%2000) - 1000
	}
	return l
}

// Promise 8.2, Spectra: some, by their numbers.
func TestSpectraKnown(t *testing.T) {
	p := lap.New()
	flat := []api.Block{
		{-1304, -699, -277, 38, -647, 897, -93, 395, 1301, 418, 224, -995, -343, 248, 688, 687},
		{173, -481, -284, -645, 133, -101, -829, 561, 803, -957, -969, -1065, -350, -150, 228, -134},
		{251, -374, 43, -743, -578, 350, 10, 167, -302, 120, -33, 46, 266, -340, -2, -102},
	}
	for _, x := range []struct {
		l     []int64
		gains [][4]int
		want  []api.Block
	}{
		{nil, nil, nil},
		{nil, [][4]int{{1, 2, 3, 0}}, nil},
		{[]int64{0}, [][4]int{{3, 3, 3, 3}}, []api.Block{{}}},
		{[]int64{1000}, nil, []api.Block{{480, -47, -483, 4, -218, 27, 37, -2, -576, 15, 377, 0, 100, -27, -7, 1}}},
		{[]int64{250}, [][4]int{{2, 0, 0, 0}}, []api.Block{{480, -47, -483, 4, -218, 27, 37, -2, -576, 15, 377, 0, 100, -27, -7, 1}}},
		{squares(), nil, flat},
		{squares(), make([][4]int, 1), flat},
		{squares(), make([][4]int, 7), flat},
		{
			squares(),
			[][4]int{{1, 0, 2, 0}, {}, {0, 3, 0, 1}},
			[]api.Block{
				{-2382, -1236, -869, -36, -184, 1035, -67, 997, 2396, 1101, 19, -3657, -511, -416, 717, 1752},
				{2103, -2050, -2797, -403, 180, 165, -1673, 2044, 2241, -2686, -4102, -3985, -1218, 1902, 643, 521},
				{-581, 3102, 33, -131, -4266, 3704, -188, 1306, 698, -994, -26, 8, 1960, -3605, 35, -797},
			},
		},
	} {
		if got := p.Spectra(x.l, x.gains); !slices.Equal(got, x.want) {
			t.Errorf("Spectra(%d, %d) = %d; want %d", x.l, x.gains, got, x.want)
		}
	}
}

// Promise 8.2, Whole: some, by their numbers, of spectra that no samples told.
func TestWholeKnown(t *testing.T) {
	p := lap.New()
	l := make([]int64, 48)
	for i := range l {
		l[i] = 7 * int64(i)
		if i%16 == 0 {
			l[i] = 1000
		}
		if i%16 == 5 {
			l[i] = -500
		}
	}
	last := []int64{290, 501, 34, 478, 571, 51, 394, 356, 379, 364, 456, 626, 578, 152, 328, 630}
	for _, x := range []struct {
		gains [][4]int
		want  []int64
	}{
		{nil, slices.Concat([]int64{
			455, 276, 207, 251, 292, -160, 106, -157, 398, 59, 386, 150, 228, -71, 81, 48,
			365, 393, 95, 412, 475, 46, 306, 363, 284, 48, 460, 237, 307, 50, 148, 334,
		}, last)},
		{[][4]int{{0, 1, 2, 3}, {3, 2, 1, 0}}, slices.Concat([]int64{
			455, 276, 207, 251, 146, -80, 53, -78, 100, 15, 97, 38, 29, -9, 10, 6,
			46, 49, 12, 52, 119, 12, 77, 91, 142, 24, 230, 119, 307, 50, 148, 334,
		}, last)},
	} {
		for n := range 60 {
			if got, want := p.Whole(inRows(l), x.gains, n), x.want[:min(n, 48)]; !slices.Equal(got, want) {
				t.Errorf("Whole(%d, %d, %d) = %d; want %d", l, x.gains, n, got, want)
			}
		}
	}
	if got := p.Whole(nil, [][4]int{{1, 1, 1, 1}}, 10); len(got) != 0 {
		t.Errorf("Whole of no spectra: %d", got)
	}
}

// Promises 8.2 and 8.4: samples of any length, and gains of any number. They are found again of their spectra.
func TestSpectraAny(t *testing.T) {
	c := chance(5)
	p := lap.New()
	for _, top := range tops(loud) {
		for length := range 70 {
			l, gains := c.list(length, top), c.gains(c.below(7))
			s := p.Spectra(l, gains)
			if want := spectra(l, gains); !slices.Equal(s, want) {
				t.Errorf("Spectra(%d, %d) = %d; want %d", l, gains, s, want)
			}
			if got := p.Whole(s, gains, length); !slices.Equal(got, l) {
				t.Errorf("by the gains %d the spectra of %d are those of %d", gains, l, got)
			}
		}
	}
}

// Promise 8.2, Whole: spectra of any numbers, and any number of samples.
func TestWholeAny(t *testing.T) {
	c := chance(6)
	p := lap.New()
	for _, top := range tops(great) {
		for count := range 6 {
			l, gains := c.blocks(count, top), c.gains(c.below(7))
			all := whole(l, gains)
			for _, n := range []int{math.MinInt, -17, -1, 0, 1, c.below(16*count + 1), 16*count - 1, 16 * count, 16*count + 1, math.MaxInt} {
				want := all[:max(0, min(n, len(all)))]
				if got := p.Whole(l, gains, n); !slices.Equal(got, want) {
					t.Errorf("Whole(%d, %d, %d) = %d; want %d", l, gains, n, got, want)
				}
			}
		}
	}
}

// Promise 8.4: whatever the gains: all that may be, at the greatest samples, and some that may not be, which count as flat.
func TestFoundAgain(t *testing.T) {
	c := chance(8)
	p := lap.New()
	for g := range 256 {
		gains := slices.Repeat([][4]int{{g & 3, g >> 2 & 3, g >> 4 & 3, g >> 6}}, 3)
		for _, l := range [][]int64{c.list(45, loud), inOne(same(3, loud)), inOne(same(3, -loud))} {
			if got := p.Whole(p.Spectra(l, gains), gains, len(l)); !slices.Equal(got, l) {
				t.Errorf("by the gains %d the spectra of %d are those of %d", gains, l, got)
			}
		}
	}
	for _, g := range wrongGains() {
		l, gains := c.list(45, loud), [][4]int{{1, 2, 3, 0}, g, g}
		s := p.Spectra(l, gains)
		if want := spectra(l, gains); !slices.Equal(s, want) {
			t.Errorf("Spectra(%d, %d) = %d; want %d", l, gains, s, want)
		}
		if got := p.Whole(s, gains, len(l)); !slices.Equal(got, l) {
			t.Errorf("by the gains %d the spectra of %d are those of %d", gains, l, got)
		}
	}
}

// Promise 8.3, Need: some, by their numbers.
func TestNeedKnown(t *testing.T) {
	for _, x := range []struct{ at, blocks, first, last int }{
		{20, 5, 0, 1},
		{28, 5, 1, 2},
		{0, 5, 0, 0},
		{7, 5, 0, 0},
		{8, 5, 0, 1},
		{15, 5, 0, 1},
		{16, 5, 0, 1},
		{23, 5, 0, 1},
		{24, 5, 1, 2},
		{71, 5, 3, 4},
		{72, 5, 4, 4},
		{79, 5, 4, 4},
		{80, 5, 0, -1},
		{-1, 5, 0, -1},
		{-8, 5, 0, -1},
		{0, 1, 0, 0},
		{15, 1, 0, 0},
		{16, 1, 0, -1},
		{0, 0, 0, -1},
		{0, -1, 0, -1},
		{-1, -1, 0, -1},
		{-20, -5, 0, -1},
		{math.MinInt, 5, 0, -1},
		{math.MaxInt, 5, 0, -1},
		{0, math.MinInt, 0, -1},
		{math.MinInt, math.MinInt, 0, -1},
		{math.MinInt, math.MaxInt, 0, -1},
		{20, math.MaxInt, 0, 1},
		{28, 1 << 60, 1, 2},
		{math.MaxInt, math.MaxInt, 1<<59 - 1, 1 << 59},
		{math.MaxInt, 1 << 59, 1<<59 - 1, 1<<59 - 1},
		{math.MaxInt - 8, 1 << 59, 1<<59 - 2, 1<<59 - 1},
		{math.MaxInt, 1<<59 - 1, 0, -1},
	} {
		first, last := lap.Need(x.at, x.blocks)
		if first != x.first || last != x.last {
			t.Errorf("Need(%d, %d) = %d, %d; want %d, %d", x.at, x.blocks, first, last, x.first, x.last)
		}
	}
}

// Promise 8.3, Need: each place of up to five blocks, by the blocks that are at hand when it is told.
func TestNeedAny(t *testing.T) {
	for blocks := range 6 {
		for at := -40; at < 16*blocks+40; at++ {
			wantFirst, wantLast := 0, -1
			for own := range blocks {
				for i := range 16 {
					if at != 16*own+i {
						continue
					}
					wantFirst, wantLast = own, own
					if i < 8 && own > 0 {
						wantFirst--
					}
					if i >= 8 && own < blocks-1 {
						wantLast++
					}
				}
			}
			first, last := lap.Need(at, blocks)
			if first != wantFirst || last != wantLast {
				t.Errorf("Need(%d, %d) = %d, %d; want %d, %d", at, blocks, first, last, wantFirst, wantLast)
			}
		}
	}
}

// wantOne is the chapter's words of One: two blocks, parted, and the place's number made quiet.
func wantOne(b, other *api.Block, g [4]int, i int) int64 {
	v := b[i]
	if other != nil && i < 8 {
		v = met(inOne([]api.Block{*other, *b}), lift.Back)[16+i]
	}
	if other != nil && i >= 8 {
		v = met(inOne([]api.Block{*b, *other}), lift.Back)[i]
	}
	return quiet(v, gainAt([][4]int{g}, i))
}

// Promise 8.3, One: some, by their numbers.
func TestOneKnown(t *testing.T) {
	p := lap.New()
	b := &api.Block{1000, 0, 0, 0, 0, 0, 0, 1000, 1000, 0, 0, 0, 0, 0, 0, 1000}
	none := &api.Block{}
	loudThere := &api.Block{8: 1000, 15: 1000}
	for _, x := range []struct {
		b, other *api.Block
		g        [4]int
		i        int
		want     int64
	}{
		{b, nil, [4]int{}, 0, 1000},
		{b, nil, [4]int{}, 15, 1000},
		{b, nil, [4]int{3, 2, 1, 3}, 0, 125},
		{b, nil, [4]int{3, 2, 1, 3}, 7, 250},
		{b, nil, [4]int{3, 2, 1, 3}, 8, 500},
		{b, none, [4]int{}, 0, 998},
		{b, none, [4]int{}, 7, 640},
		{b, none, [4]int{}, 8, 640},
		{b, none, [4]int{}, 15, 998},
		{b, none, [4]int{2, 0, 0, 0}, 0, 250}, // a half, upwards
		{none, loudThere, [4]int{}, 0, 62},
		{none, loudThere, [4]int{}, 7, 769},
		{none, b, [4]int{}, 8, -769},
		{none, b, [4]int{}, 15, -62},
		{none, b, [4]int{0, 0, 0, 2}, 15, -15}, // minus fifteen and a half, upwards
		{none, b, [4]int{0, 0, 0, 3}, 15, -8},
		{none, b, [4]int{}, 1, 0},
		{none, none, [4]int{3, 3, 3, 3}, 5, 0},
	} {
		if got := p.One(x.b, x.other, x.g, x.i); got != x.want {
			t.Errorf("One(%d, %d, %d, %d) = %d; want %d", x.b, x.other, x.g, x.i, got, x.want)
		}
	}
}

// Promise 8.3, One: each place of blocks of any numbers, with and without one that it meets, and with gains of any kind.
func TestOneAny(t *testing.T) {
	c := chance(9)
	p := lap.New()
	gains := append(append(c.gains(20), wrongGains()...), [4]int{})
	for _, top := range tops(1 << 38) {
		l := c.blocks(2, top)
		for _, other := range []*api.Block{nil, &l[1], &l[0]} { // a block may meet itself, too
			for _, g := range gains {
				for i := range 16 {
					got, want := p.One(&l[0], other, g, i), wantOne(&l[0], other, g, i)
					if got != want {
						t.Errorf("One(%d, %d, %d, %d) = %d; want %d", l[0], other, g, i, got, want)
					}
				}
			}
		}
	}
}

// Promise 8.3, One: 0 of a nil block, and of places that there are not.
func TestOneNone(t *testing.T) {
	p := lap.New()
	l := same(2, 1000)
	for _, g := range append(wrongGains(), [4]int{}, [4]int{3, 3, 3, 3}) {
		for _, i := range []int{math.MinInt, -17, -16, -8, -1, 16, 17, 24, 31, 32, math.MaxInt} {
			for _, other := range []*api.Block{nil, &l[1]} {
				if got := p.One(&l[0], other, g, i); got != 0 {
					t.Errorf("One at %d, with gains %d: %d; want 0", i, g, got)
				}
				if got := p.One(nil, other, g, i); got != 0 {
					t.Errorf("One of nil at %d: %d; want 0", i, got)
				}
			}
		}
		for i := range 16 {
			if p.One(nil, nil, g, i) != 0 || p.One(nil, &l[1], g, i) != 0 {
				t.Errorf("One of nil at %d isn't 0", i)
			}
		}
	}
}

// gainsThere are those of a block; flat, if there are none.
func gainsThere(gains [][4]int, block int) [4]int {
	if block >= len(gains) {
		return [4]int{}
	}
	return gains[block]
}

// Promise 8.5: each sample of spectra is One of its block, and of the other one that it needs.
func TestOneOfWhole(t *testing.T) {
	c := chance(10)
	p := lap.New()
	for _, top := range tops(great) {
		for count := range 6 {
			l, gains := c.blocks(count, top), c.gains(c.below(7))
			for at, want := range p.Whole(l, gains, 16*count) {
				first, last := lap.Need(at, count)
				own := at / 16
				b, other := p.Inverse(l[own]), p.Inverse(l[first+last-own])
				meets := &other
				if first == last {
					meets = nil
				}
				if got := p.One(&b, meets, gainsThere(gains, own), at%16); got != want {
					t.Errorf("of %d, with the gains %d, at %d: %d; want %d", l, gains, at, got, want)
				}
			}
		}
	}
}

// Promise 8.5: the other blocks, and their gains, change nothing; those that a sample needs are its own.
func TestTwoAlone(t *testing.T) {
	c := chance(11)
	p := lap.New()
	const count = 5
	for range 30 {
		l, gains := c.blocks(count, great), c.gains(count)
		for at, want := range p.Whole(l, gains, 16*count) {
			first, last := lap.Need(at, count)
			others, otherGains := c.blocks(count, great), c.gains(count)
			others[first], others[last], otherGains[at/16] = l[first], l[last], gains[at/16]
			if got := p.Whole(others, otherGains, 16*count)[at]; got != want {
				t.Errorf("the sample at %d hangs on more than the blocks %d and %d", at, first, last)
			}
		}
	}
}

// Words: what lift and net can, a lap can: its turns are the table's.
func TestPromoted(t *testing.T) {
	c := chance(12)
	p := lap.New()
	for range 100 {
		a, b := c.list(10, loud), c.list(9, loud)
		wantA, wantB := slices.Clone(a), slices.Clone(b)
		pairs := lift.New(table.Turns())
		p.Turn(a, b)
		pairs.Turn(wantA, wantB)
		if !slices.Equal(a, wantA) || !slices.Equal(b, wantB) {
			t.Errorf("Turn: %d, %d; want %d, %d", a, b, wantA, wantB)
		}
		p.Back(a, b)
		pairs.Back(wantA, wantB)
		if !slices.Equal(a, wantA) || !slices.Equal(b, wantB) {
			t.Errorf("Back: %d, %d; want %d, %d", a, b, wantA, wantB)
		}
		block := c.blocks(1, great)[0]
		if p.Forward(block) != net.New().Forward(block) || p.Inverse(block) != net.New().Inverse(block) {
			t.Errorf("of %d the spectrum, or the inverse, is another one", block)
		}
	}
}

// Promises 8.1 to 8.3, and rule R1: of other numbers there is an end, and no panic, nor of a lap that nobody made.
func TestWrong(t *testing.T) {
	c := chance(13)
	var none lap.Lap
	for _, p := range []lap.Lap{lap.New(), none} {
		for range 300 {
			l := make([]int64, c.below(60))
			for i := range l {
				l[i] = far()[c.below(len(far()))]
			}
			blocks := lap.Blocks(l)
			gains := append(c.gains(1), wrongGains()[c.below(7)], [4]int{3, 3, 3, 3})
			if got := p.Join(blocks); len(got) != len(blocks) {
				t.Errorf("%d blocks are joined to %d", len(blocks), len(got))
			}
			if got := p.Part(blocks); len(got) != len(blocks) {
				t.Errorf("%d blocks are parted to %d", len(blocks), len(got))
			}
			if got := p.Spectra(l, gains); len(got) != len(blocks) {
				t.Errorf("of %d blocks there are %d spectra", len(blocks), len(got))
			}
			if got := p.Whole(blocks, gains, len(l)); len(got) != len(l) {
				t.Errorf("of %d samples there are %d", len(l), len(got))
			}
			for i := range blocks {
				for at := -1; at < 17; at++ {
					p.One(&blocks[i], nil, gains[i%3], at)
					p.One(&blocks[i], &blocks[0], gains[i%3], at)
				}
			}
		}
	}
}

// Rule R3: what is handed in is as it was, also behind the lists' ends.
func TestHandedIn(t *testing.T) {
	c := chance(14)
	p := lap.New()
	blocks, samples, gains := c.blocks(5, loud), c.list(80, loud), c.gains(5)
	wasBlocks, wasSamples, wasGains := slices.Clone(blocks), slices.Clone(samples), slices.Clone(gains)
	lap.Blocks(samples[:41])
	lap.Samples(blocks[:4], 50)
	p.Join(blocks[:4])
	p.Part(blocks[:4])
	p.Spectra(samples[:41], gains[:2])
	p.Whole(blocks[:4], gains[:2], 50)
	for i := range 16 {
		p.One(&blocks[1], &blocks[2], gains[1], i)
	}
	if !slices.Equal(blocks, wasBlocks) || !slices.Equal(samples, wasSamples) || !slices.Equal(gains, wasGains) {
		t.Error("a call has changed what it was given")
	}
}

// Rule R3: what is answered is new memory: writing into it, and behind it, changes neither what was handed in nor a later answer.
func TestAnswers(t *testing.T) {
	c := chance(15)
	p := lap.New()
	for count := range 4 { // a single block is turned nowhere, and is new all the same
		blocks, samples := c.blocks(count, loud), c.list(16*count, loud)
		wasBlocks, wasSamples := slices.Clone(blocks), slices.Clone(samples)
		for range 2 {
			for _, x := range []struct{ got, want []api.Block }{
				{lap.Blocks(samples), inRows(wasSamples)},
				{p.Join(blocks), inRows(met(inOne(wasBlocks), lift.Turn))},
				{p.Part(blocks), inRows(met(inOne(wasBlocks), lift.Back))},
				{p.Spectra(samples, nil), spectra(wasSamples, nil)},
			} {
				if !slices.Equal(x.got, x.want) {
					t.Errorf("%d; want %d", x.got, x.want)
				}
				clear(x.got[:cap(x.got)])
			}
			for _, x := range []struct{ got, want []int64 }{
				{lap.Samples(blocks, 16*count), inOne(wasBlocks)},
				{p.Whole(blocks, nil, 16*count), whole(wasBlocks, nil)},
			} {
				if !slices.Equal(x.got, x.want) {
					t.Errorf("%d; want %d", x.got, x.want)
				}
				clear(x.got[:cap(x.got)])
			}
		}
	}
}
