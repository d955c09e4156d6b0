package fit_test

import (
	"math"
	"math/big"
	"slices"
	"testing"

	"calliope/api"
	"calliope/fit"
	"calliope/frame"
)

const (
	least   = math.MinInt64
	most    = math.MaxInt64
	bound   = 1 << 40   // of the numbers that are promised
	loudest = 1<<23 - 1 // of the numbers that Frame tells
)

// chance is a row of numbers that look like chance, and are the same in each run.
type chance uint64

func (c *chance) next() uint64 {
	*c = *c*6364136223846793005 + 1442695040888963407
	x := uint64(*c)
	return x ^ x>>29
}

func (c *chance) below(n int) int {
	return int(c.next() >> 33 % uint64(n))
}

// number is one between -top and top, both among them.
func (c *chance) number(top int64) int64 {
	switch c.below(8) {
	case 0:
		return top
	case 1:
		return -top
	case 2:
		return 0
	}
	return int64(c.next()>>1%uint64(2*top+1)) - top
}

// block is a spectrum whose bands are louder and quieter; in some of them one number stands out.
func (c *chance) block(top int64) api.Block {
	var b api.Block
	for band := range 4 {
		loud := top
		if c.below(3) > 0 {
			loud = top >> c.below(24)
		}
		stands := c.below(3) == 0
		for k := range 4 {
			b[4*band+k] = c.number(loud)
			if stands {
				b[4*band+k] = c.number(loud / 8)
			}
		}
		if stands {
			b[4*band+c.below(4)] = c.number(loud)
		}
	}
	return b
}

// gains are some that may be.
func (c *chance) gains() [4]int {
	var g [4]int
	for k := range g {
		g[k] = c.below(4)
	}
	return g
}

// tops are how great the numbers of spectra are, up to a bound.
func tops(bound int64) []int64 {
	l := []int64{0, 3, 5, 63, 65, 100, 520, 32767, bound - 1, bound}
	for top := int64(1); top <= bound; top *= 2 {
		l = append(l, top)
	}
	return l
}

// wrong are numbers that no gain is.
func wrong() []int {
	return []int{-1, -2, -3, -4, 4, 5, 7, 8, 64, 256, 1 << 32, math.MinInt, math.MinInt + 1, math.MaxInt - 1, math.MaxInt}
}

// wrongSizes are those that no frame has.
func wrongSizes() []int {
	return []int{math.MinInt, math.MinInt + 1, -1 << 32, -96, -55, -24, -1, 0, 1, 7, 12, 22, 23, 97, 98, 128, 192, 1 << 32, 1<<32 + 24, 1<<61 + 24, math.MaxInt - 1, math.MaxInt}
}

// abs is a number without its sign.
func abs(v int64) int64 {
	if v < 0 {
		return -v
	}
	return v
}

// power is 2 to a power.
func power(n int) int64 {
	v := int64(1)
	for range n {
		v += v
	}
	return v
}

// width is how many bits a number needs as a two's complement: tried one by one.
func width(v int64) int {
	if v == 0 {
		return 0
	}
	for bits := 1; ; bits++ {
		if top := power(bits - 1); -top <= v && v < top {
			return bits
		}
	}
}

// masked is a spectrum's mask: how many bits the greatest of a band's numbers without their signs needs.
func masked(b api.Block) [4]int {
	var mask [4]int
	for i, v := range b {
		mask[i/4] = max(mask[i/4], width(abs(v)))
	}
	return mask
}

// nearest is how many steps of a scale a number is, to the nearest, halves away from 0, by another way than the program's.
func nearest(v int64, scale int) int64 {
	step := power(scale)
	steps := (2*abs(v) + step) / (2 * step)
	if v < 0 {
		return -steps
	}
	return steps
}

// stands tells whether a place is a tone, by another way than the program's.
func stands(b api.Block, i int) bool {
	for j := range 16 {
		if j != i && j/4 == i/4 && 8*abs(b[j]) > abs(b[i]) {
			return false
		}
	}
	return abs(b[i]) >= 64
}

// parted are a spectrum without its two greatest tones, and these.
func parted(b api.Block) (api.Block, []api.Tone) {
	rest := b
	var l []api.Tone
	for i := range 16 {
		ahead := 0
		for j := range 16 {
			if stands(b, j) && (abs(b[j]) > abs(b[i]) || abs(b[j]) == abs(b[i]) && j < i) {
				ahead++
			}
		}
		if stands(b, i) && ahead < 2 {
			l = append(l, api.Tone{Index: i, Value: b[i]})
			rest[i] = 0
		}
	}
	return rest, l
}

// written is a spectrum told with scales and tones: number by number.
func written(rest api.Block, g [4]int, l []api.Tone, s [4]int) api.Frame {
	f := api.Frame{Gains: g, Tones: l, Scale: s}
	for i, v := range rest {
		f.Q[i] = nearest(v, s[i/4])
		f.Width[i/4] = max(f.Width[i/4], width(f.Q[i]))
	}
	return f
}

// needs is how many bits a frame needs: those of its head, its tones and its steps.
func needs(f api.Frame) int {
	n := 52 + 28*len(f.Tones)
	for i := range 16 {
		n += f.Width[i/4]
	}
	return n
}

// turn is that a band of some scale is told one scale coarser.
type turn struct{ band, above int }

// turns are all of them, in the order of the search, by another way than the program's: how far a mask lies above a scale turns for no other band's sake, and a band that has become silent stays so; so all are found ahead, and put in order once.
func turns(rest api.Block) []turn {
	mask := masked(rest)
	var l []turn
	for band := range 4 {
		for scale := range 23 {
			silent := true
			for k := range 4 {
				silent = silent && nearest(rest[4*band+k], scale) == 0
			}
			if !silent {
				l = append(l, turn{band, mask[band] - scale})
			}
		}
	}
	slices.SortFunc(l, func(x, y turn) int {
		if x.above != y.above {
			return y.above - x.above
		}
		return x.band - y.band
	})
	return l
}

// searched is what the search for so many bits finds.
func searched(b api.Block, g [4]int, room int, tones bool) (api.Frame, int) {
	rest, l := b, []api.Tone(nil)
	if tones {
		rest, l = parted(b)
	}
	var s [4]int
	f, all := written(rest, g, l, s), turns(rest)
	for times, t := range all {
		if needs(f) <= room {
			return f, times
		}
		s[t.band]++
		f = written(rest, g, l, s)
	}
	return f, len(all)
}

// alike tells whether two frames are one, by another way than the program's.
func alike(a, b api.Frame) bool {
	if len(a.Tones) != len(b.Tones) {
		return false
	}
	for k, t := range a.Tones {
		if t.Index != b.Tones[k].Index || t.Value != b.Tones[k].Value {
			return false
		}
	}
	for i := range 16 {
		if a.Q[i] != b.Q[i] || a.Gains[i/4] != b.Gains[i/4] || a.Scale[i/4] != b.Scale[i/4] || a.Width[i/4] != b.Width[i/4] {
			return false
		}
	}
	return true
}

func wantMask(t *testing.T, b api.Block, want [4]int) {
	t.Helper()
	if got := fit.Mask(b); got != want {
		t.Errorf("Mask(%d) = %d; want %d", b, got, want)
	}
}

func wantExact(t *testing.T, b api.Block, want api.Frame) {
	t.Helper()
	if got := fit.Exact(b); !alike(got, want) {
		t.Errorf("Exact(%d) = %v; want %v", b, got, want)
	}
}

func wantSearch(t *testing.T, b api.Block, g [4]int, room int, tones bool, want api.Frame, times int) {
	t.Helper()
	if got, n := fit.Search(b, g, room, tones); n != times || !alike(got, want) {
		t.Errorf("Search(%d, %d, %d, %t) = %v, %d; want %v, %d", b, g, room, tones, got, n, want, times)
	}
}

// wantFound holds a search against the other way.
func wantFound(t *testing.T, b api.Block, g [4]int, room int, tones bool) {
	t.Helper()
	want, times := searched(b, g, room, tones)
	wantSearch(t, b, g, room, tones, want, times)
}

func wantFrame(t *testing.T, b api.Block, g [4]int, size int, want api.Frame, wantErr api.Errno) {
	t.Helper()
	if got, e := fit.Frame(b, g, size); e != wantErr || !alike(got, want) {
		t.Errorf("Frame(%d, %d, %d) = %v, %v; want %v, %v", b, g, size, got, e, want, wantErr)
	}
}

// wantRefused holds that there is no frame, but an error.
func wantRefused(t *testing.T, b api.Block, g [4]int, size int, want api.Errno) {
	t.Helper()
	wantFrame(t, b, g, size, api.Frame{}, want)
}

// wantTold holds a spectrum's frame against the other way, and that it may be, has room, and is read again.
func wantTold(t *testing.T, b api.Block, g [4]int, size int) {
	t.Helper()
	want := written(b, [4]int{}, nil, [4]int{})
	if size < 55 {
		want, _ = searched(b, g, 8*size, true)
	}
	wantFrame(t, b, g, size, want, api.OK)
	f, _ := fit.Frame(b, g, size)
	bytes, e := frame.Bytes(f, size)
	if e != api.OK || !frame.Right(f) || needs(f) > 8*size || len(bytes) != size {
		t.Errorf("Frame(%d, %d, %d) = %v, which is %d bits, and %x, %v", b, g, size, f, needs(f), bytes, e)
		return
	}
	if again, e := frame.Read(bytes); e != api.OK || !alike(again, f) {
		t.Errorf("%v is read as %v, %v", f, again, e)
	}
	if size >= 55 && (frame.Spectrum(f) != b || fit.Off(b, f) != 0) {
		t.Errorf("Frame(%d, %d, %d) tells %d", b, g, size, frame.Spectrum(f))
	}
}

func wantOff(t *testing.T, b api.Block, f api.Frame, want int64) {
	t.Helper()
	if got := fit.Off(b, f); got != want {
		t.Errorf("Off(%d, %v) = %d; want %d", b, f, got, want)
	}
}

// The example of the chapter.
func TestNoughts(t *testing.T) {
	wantMask(t, api.Block{}, [4]int{})
	wantExact(t, api.Block{}, api.Frame{})
	for _, tones := range []bool{false, true} {
		for _, room := range []int{math.MinInt, -1, 0, 51, 52, 192, math.MaxInt} {
			wantSearch(t, api.Block{}, [4]int{}, room, tones, api.Frame{}, 0)
			wantSearch(t, api.Block{}, [4]int{3, 0, 1, 2}, room, tones, api.Frame{Gains: [4]int{3, 0, 1, 2}}, 0)
		}
	}
	for size := 24; size <= 96; size++ {
		wantFrame(t, api.Block{}, [4]int{}, size, api.Frame{}, api.OK)
	}
	wantOff(t, api.Block{}, api.Frame{}, 0)
}

// Promise 12.1, Mask: some, by their numbers; of a peak below 0, too.
func TestMaskKnown(t *testing.T) {
	wantMask(t, api.Block{30000, -20000, 1, 2, 500, 600, -700, 800, 9, 9, 9, 9, 0, 0, 0, -1}, [4]int{16, 11, 5, 2})
	wantMask(t, api.Block{-1, 0, 0, 0, -2, 1, 0, 0, 0, -4, 0, 3, 0, 0, -8, -7}, [4]int{2, 3, 4, 5})
	wantMask(t, api.Block{0: -32768, 7: -32767, 8: 32768, 15: 32767}, [4]int{17, 16, 17, 16})
	wantMask(t, api.Block{1: bound, 5: -bound, 9: bound - 1, 13: 1 - bound}, [4]int{42, 42, 41, 41})
}

// Promise 12.1, Mask: each power of two and what lies around it, with both signs, at each place, beside smaller ones; no other band is asked.
func TestMaskEdges(t *testing.T) {
	c := chance(1)
	for i := range 16 {
		for n := range 41 {
			for more := int64(-1); more <= 1; more++ {
				v := min(power(n)+more, bound)
				b := api.Block{}
				b[i] = v
				wantMask(t, b, masked(b))
				b[i] = -v
				wantMask(t, b, masked(b))
				b = c.block(v)
				wantMask(t, b, masked(b))
			}
		}
	}
}

// Promise 12.1, Exact: by its numbers; a tone is told as any number, and -2^n needs a bit less than its peak.
func TestExactKnown(t *testing.T) {
	b := api.Block{30000, -20000, 1, 2, 500, 600, -700, 800, 9, 9, 9, 9, 0, 0, 0, -1}
	wantExact(t, b, api.Frame{Width: [4]int{16, 11, 5, 1}, Q: b})
	b = api.Block{1: -32768, 5: 1 << 20, 9: -bound}
	wantExact(t, b, api.Frame{Width: [4]int{16, 22, 41, 0}, Q: b})
}

// Promise 12.1, Exact: any spectrum; nothing of it is lost, as far as a frame goes.
func TestExactAny(t *testing.T) {
	c := chance(2)
	for _, top := range tops(bound) {
		for range 40 {
			b := c.block(top)
			f := fit.Exact(b)
			wantExact(t, b, written(b, [4]int{}, nil, [4]int{}))
			if top <= 1<<31 && (frame.Spectrum(f) != b || fit.Off(b, f) != 0) {
				t.Errorf("Exact(%d) tells %d, and is %d off", b, frame.Spectrum(f), fit.Off(b, f))
			}
		}
	}
}

// Promise 12.1, Search: some, worked out by hand. The masks 7, 3, 0 and 5 lie above their scales; the highest falls until it is no higher than another one behind it.
func TestSearchKnown(t *testing.T) {
	b := api.Block{0: 63, 1: -20, 4: 3, 12: 10, 13: -9}
	g := [4]int{1, 2, 3, 0}
	told := func(s, widths [4]int, q api.Block) api.Frame {
		return api.Frame{Gains: g, Scale: s, Width: widths, Q: q}
	}
	// 112 bits: told as it is.
	exact := told([4]int{}, [4]int{7, 3, 0, 5}, b)
	wantSearch(t, b, g, 112, false, exact, 0)
	wantSearch(t, b, g, math.MaxInt, false, exact, 0)
	// 63 in steps of 2 is 32, which needs no fewer bits; in steps of 4 it is 16.
	once := told([4]int{2, 0, 0, 0}, [4]int{6, 3, 0, 5}, api.Block{0: 16, 1: -5, 4: 3, 12: 10, 13: -9})
	wantSearch(t, b, g, 111, false, once, 2)
	wantSearch(t, b, g, 108, false, once, 2)
	// Both lie 5 above their scales; the first one is told coarser.
	twice := told([4]int{3, 0, 0, 0}, [4]int{5, 3, 0, 5}, api.Block{0: 8, 1: -3, 4: 3, 12: 10, 13: -9})
	wantSearch(t, b, g, 107, false, twice, 3)
	wantSearch(t, b, g, 104, false, twice, 3)
	// Then the last one; its halves go away from 0.
	thrice := told([4]int{3, 0, 0, 1}, [4]int{5, 3, 0, 4}, api.Block{0: 8, 1: -3, 4: 3, 12: 5, 13: -5})
	wantSearch(t, b, g, 103, false, thrice, 4)
	wantSearch(t, b, g, 100, false, thrice, 4)
}

// Promise 12.1, Search: the tones are the spectrum's, or none; the mask is that of the spectrum without them.
func TestSearchTones(t *testing.T) {
	b := api.Block{0: -5000, 3: 7, 5: 100, 6: 100, 13: 64}
	tones := []api.Tone{{Index: 0, Value: -5000}, {Index: 13, Value: 64}}
	rest := api.Block{3: 7, 5: 100, 6: 100}
	wantSearch(t, b, [4]int{}, 156, true, api.Frame{Tones: tones, Width: [4]int{4, 8, 0, 0}, Q: rest}, 0)
	coarse := api.Frame{Tones: tones, Scale: [4]int{0, 2, 0, 0}, Width: [4]int{4, 6, 0, 0}, Q: api.Block{3: 7, 5: 25, 6: 25}}
	wantSearch(t, b, [4]int{}, 148, true, coarse, 2)
	wantSearch(t, b, [4]int{}, 172, false, api.Frame{Width: [4]int{14, 8, 0, 8}, Q: b}, 0)
	// Its peak in steps of 2 and 4 is 2500 and 1250, which need a bit less each.
	coarse = api.Frame{Scale: [4]int{2, 0, 0, 0}, Width: [4]int{12, 8, 0, 8}, Q: api.Block{0: -1250, 3: 2, 5: 100, 6: 100, 13: 64}}
	wantSearch(t, b, [4]int{}, 164, false, coarse, 2)
}

// Promise 12.1, Search: of bands whose masks lie alike above their scales the first is told coarser, and then the next one.
func TestSearchAlike(t *testing.T) {
	b := api.Block{0: 1024, 1: 1023, 4: -1023, 5: 1024, 8: 1024, 9: -1023, 14: 1024, 15: 1024}
	var g, s [4]int
	for times := range 40 {
		// Each time that a step doubles 1024 needs a bit less.
		f := written(b, g, nil, s)
		wantSearch(t, b, g, needs(f), false, f, times)
		s[times%4]++
	}
}

// Promise 12.1, Search: each two bands, one of them louder by so much, in each room.
func TestSearchTwoBands(t *testing.T) {
	for band := range 4 {
		for other := range 4 {
			for above := range 8 {
				b := api.Block{}
				b[4*band], b[4*band+1] = 700, -700
				b[4*other+2], b[4*other+3] = 700<<above, -700<<above
				for room := 48; room <= 200; room += 4 {
					wantFound(t, b, [4]int{}, room, false)
				}
			}
		}
	}
}

// Promise 12.1, Search: each room there may be, about a frame's whole length, and beyond.
func TestSearchRooms(t *testing.T) {
	c := chance(3)
	for _, top := range []int64{1, 70, 5000, 1 << 15, loudest, 1 << 30, bound} {
		for range 4 {
			b, g := c.block(top), c.gains()
			for room := -3; room <= 800; room++ {
				wantFound(t, b, g, room, room%2 == 0)
			}
			for _, tones := range []bool{false, true} {
				for _, room := range []int{math.MinInt, math.MinInt + 1, -1 << 32, -1000, 1000, 1 << 32, math.MaxInt - 1, math.MaxInt} {
					wantFound(t, b, g, room, tones)
				}
			}
		}
	}
}

// Promise 12.1, Search: any spectrum, in any room.
func TestSearchAny(t *testing.T) {
	c := chance(4)
	var counts [3]int
	for _, top := range tops(bound) {
		for range 300 {
			b := c.block(top)
			wantFound(t, b, c.gains(), 30+c.below(500), false)
			wantFound(t, b, c.gains(), 30+c.below(500), true)
			_, l := parted(b)
			counts[len(l)]++
		}
	}
	for n, count := range counts {
		if count < 500 {
			t.Errorf("just %d spectra of %d tones", count, n)
		}
	}
}

// Promise 12.1, Search: where no band can be told coarser it ends, with room or without: all are silent, or their scale is 23.
func TestSearchEnds(t *testing.T) {
	b := api.Block{1: 100, 5: -7, 9: 1, 13: 255}
	// 2^n needs a scale above n to be silent; 100 in steps of 256 and 255 in steps of 512 are.
	silent := api.Frame{Scale: [4]int{8, 4, 2, 9}}
	for _, room := range []int{51, 0, -1, math.MinInt} {
		wantSearch(t, b, [4]int{}, room, false, silent, 23)
	}
	b = api.Block{0: bound, 1: -bound, 4: 1 << 22, 8: 1<<22 - 1, 12: 1 << 30, 13: -1 << 30}
	coarsest := api.Frame{
		Scale: [4]int{23, 23, 23, 23},
		Width: [4]int{19, 2, 0, 9},
		Q:     api.Block{0: 1 << 17, 1: -1 << 17, 4: 1, 12: 1 << 7, 13: -1 << 7},
	}
	for _, room := range []int{171, 51, 0, -1, math.MinInt} {
		wantSearch(t, b, [4]int{}, room, false, coarsest, 92)
	}
	wantSearch(t, b, [4]int{}, 172, false, coarsest, 92)
}

// Promise 12.1, Search: the frame has the gains that it is given, whatever these are; they need no other room.
func TestSearchGains(t *testing.T) {
	b := api.Block{0: 1000, 1: -900, 6: 80, 15: 64}
	for n := range 256 {
		wantFound(t, b, [4]int{n & 3, n >> 2 & 3, n >> 4 & 3, n >> 6}, 100, n%2 == 0)
	}
	for _, v := range wrong() {
		for k := range 4 {
			g := [4]int{1, 2, 3, 0}
			g[k] = v
			wantFound(t, b, g, 100, false)
			wantFound(t, b, g, 100, true)
		}
	}
}

// Promise 12.2, Frame: sizes that may not be, ahead of all else that is wrong.
func TestFrameSizes(t *testing.T) {
	for _, size := range wrongSizes() {
		wantRefused(t, api.Block{}, [4]int{}, size, api.ErrSize)
		wantRefused(t, api.Block{3: 1000, 9: -7}, [4]int{1, 2, 3, 0}, size, api.ErrSize)
		wantRefused(t, api.Block{3: 1 << 23}, [4]int{}, size, api.ErrSize)
		wantRefused(t, api.Block{3: 1000}, [4]int{0, 4, 0, 0}, size, api.ErrSize)
	}
	for size := 24; size <= 96; size++ {
		wantTold(t, api.Block{3: 1000, 9: -7}, [4]int{1, 2, 3, 0}, size)
	}
}

// Promise 12.2, Frame: a peak that needs more than 24 bits is refused, at each place and in each size; one of 24 is not. A peak has no sign: -2^23 is refused, too.
func TestFramePeak(t *testing.T) {
	for size := 24; size <= 96; size++ {
		for i := range 16 {
			for _, v := range []int64{loudest, -loudest, loudest - 1} {
				b := api.Block{}
				b[i] = v
				wantTold(t, b, [4]int{}, size)
				b[15-i] += 2
				wantTold(t, b, [4]int{0, 0, 3, 0}, size)
			}
			for _, v := range []int64{1 << 23, -1 << 23, 1<<23 + 1, 1 << 24, -1 << 31, 1 << 32, bound, -bound} {
				b := api.Block{2: 5, 14: -1000}
				b[i] = v
				wantRefused(t, b, [4]int{}, size, api.ErrRange)
				wantRefused(t, b, [4]int{0, 0, 9, 0}, size, api.ErrRange)
			}
		}
	}
}

// Promise 12.2, Frame: gains that may not be are refused, at each place and in each size, those too that tell nothing of them; all others are not.
func TestFrameGains(t *testing.T) {
	b := api.Block{3: 1000, 4: 800, 5: -800, 9: -7}
	for n := range 256 {
		g := [4]int{n & 3, n >> 2 & 3, n >> 4 & 3, n >> 6}
		for _, size := range []int{24, 30, 54, 55, 96} {
			wantTold(t, b, g, size)
		}
	}
	for size := 24; size <= 96; size++ {
		for _, v := range wrong() {
			for k := range 4 {
				g, alone := [4]int{1, 2, 3, 0}, [4]int{}
				g[k], alone[k] = v, v
				wantRefused(t, b, g, size, api.ErrRange)
				wantRefused(t, api.Block{}, alone, size, api.ErrRange)
			}
		}
	}
}

// Promise 12.2, Frame: from 55 bytes on exact, without gains and tones, however loud; below that with them, and in 54 bytes coarser, if it needs that.
func TestFrameLossless(t *testing.T) {
	var loud api.Block
	for i := range loud {
		loud[i] = loudest - int64(i)
	}
	tones := api.Block{0: 1000, 6: -loudest}
	for size := 55; size <= 96; size++ {
		wantFrame(t, loud, [4]int{3, 3, 3, 3}, size, api.Frame{Width: [4]int{24, 24, 24, 24}, Q: loud}, api.OK)
		wantFrame(t, tones, [4]int{3, 3, 3, 3}, size, api.Frame{Width: [4]int{11, 24, 0, 0}, Q: tones}, api.OK)
	}
	both := []api.Tone{{Index: 0, Value: 1000}, {Index: 6, Value: -loudest}}
	for size := 24; size < 55; size++ {
		wantFrame(t, tones, [4]int{3, 0, 1, 2}, size, api.Frame{Gains: [4]int{3, 0, 1, 2}, Tones: both}, api.OK)
	}
	// In steps of 2 the first band needs no bit less, the next one does.
	f, e := fit.Frame(loud, [4]int{3, 3, 3, 3}, 54)
	if e != api.OK || f.Gains != [4]int{3, 3, 3, 3} || f.Scale != [4]int{1, 1, 0, 0} || needs(f) != 432 {
		t.Error(f, e)
	}
	wantTold(t, loud, [4]int{3, 3, 3, 3}, 54)
}

// Promises 12.2 and 12.3, Frame: any spectrum that may be told, in each size: it may be a frame, has room, and from 55 bytes on its spectrum is as it was.
func TestFrameAny(t *testing.T) {
	c := chance(5)
	for size := 24; size <= 96; size++ {
		for _, top := range tops(loudest) {
			for range 6 {
				wantTold(t, c.block(top), c.gains(), size)
			}
		}
	}
}

// Promise 12.3: spectra whose numbers are all as great as may be, of either sign, and those beside two tones, have room in the least frames.
func TestFrameLoudest(t *testing.T) {
	for n := range 1 << 16 {
		var b api.Block
		for i := range b {
			b[i] = loudest
			if n>>i&1 == 1 {
				b[i] = -loudest
			}
		}
		if n%16 != 0 {
			b[n%16], b[(n+1)%16] = loudest/8, 1-loudest/8
		}
		f, e := fit.Frame(b, [4]int{}, 24)
		if e != api.OK || !frame.Right(f) || needs(f) > 192 {
			t.Fatalf("Frame(%d) = %v, %v", b, f, e)
		}
	}
	for i := range 4 {
		for j := range 4 {
			b := api.Block{8: loudest, 9: -loudest, 12: -loudest, 15: loudest}
			b[i], b[4+j] = loudest, -loudest
			for size := 24; size <= 96; size++ {
				wantTold(t, b, [4]int{1, 1, 1, 1}, size)
			}
		}
	}
}

// Promise 12.2, Off: by its numbers: the farthest alone counts, whichever way it is off.
func TestOffKnown(t *testing.T) {
	f := api.Frame{Tones: []api.Tone{{Index: 9, Value: -70000}}, Scale: [4]int{3, 0, 0, 0}, Width: [4]int{5, 0, 3, 0}, Q: api.Block{0: 13, 1: -13, 9: 3}}
	told := api.Block{0: 104, 1: -104, 9: -69997}
	wantOff(t, told, f, 0)
	wantOff(t, api.Block{0: 100, 1: -101, 9: -69997}, f, 4)
	wantOff(t, api.Block{0: 109, 1: -100, 9: -69997}, f, 5)
	wantOff(t, api.Block{0: 104, 1: -104}, f, 69997)
	wantOff(t, api.Block{}, f, 69997)
	wantOff(t, told, api.Frame{}, 69997)
	for i := range 16 {
		for _, v := range []int64{1, -1, 1000, -bound / 2} {
			b := told
			b[i] += v
			wantOff(t, b, f, abs(v))
		}
	}
	// A frame's spectrum is held within 2^31.
	loud := api.Frame{Tones: []api.Tone{{Index: 0, Value: 8388607}}, Scale: [4]int{23, 0, 0, 0}, Width: [4]int{24, 0, 0, 0}, Q: api.Block{0: 8388607, 3: -8388608}}
	wantOff(t, api.Block{0: 1 << 31, 3: -1 << 31}, loud, 0)
	wantOff(t, api.Block{0: 1<<31 + 7, 3: -1<<31 - 9}, loud, 9)
	wantOff(t, api.Block{0: bound, 3: -bound}, loud, bound-1<<31)
}

// spoken is the spectrum of a frame, number by number, by another way than the program's.
func spoken(f api.Frame) [16]*big.Int {
	var b [16]*big.Int
	loudest := big.NewInt(1 << 31)
	for i, v := range f.Q {
		b[i] = new(big.Int).Mul(big.NewInt(v), big.NewInt(power(f.Scale[i/4])))
		for _, t := range f.Tones {
			if t.Index == i {
				b[i].Add(b[i], big.NewInt(t.Value))
			}
		}
		if b[i].CmpAbs(loudest) > 0 {
			b[i].Mul(loudest, big.NewInt(int64(b[i].Sign())))
		}
	}
	return b
}

// Promise 12.2, Off: of what the search finds, and of any other spectrum's frame.
func TestOffAny(t *testing.T) {
	c := chance(6)
	for _, top := range tops(bound) {
		for range 100 {
			b, other := c.block(top), c.block(top)
			f, _ := fit.Search(b, c.gains(), 52+c.below(200), c.below(2) == 0)
			told := spoken(f)
			for _, x := range []api.Block{b, other} {
				far := new(big.Int)
				for i, v := range x {
					off := new(big.Int).Sub(big.NewInt(v), told[i])
					if off.CmpAbs(far) > 0 {
						far.Abs(off)
					}
				}
				wantOff(t, x, f, far.Int64())
			}
		}
	}
}

// What follows of chapters 9 and 12: what Frame tells is no further off than half of its coarsest step.
func TestOffHalf(t *testing.T) {
	c := chance(7)
	for size := 24; size < 55; size++ {
		for _, top := range tops(loudest) {
			b := c.block(top)
			f, e := fit.Frame(b, [4]int{}, size)
			if half := power(slices.Max(f.Scale[:])) / 2; e != api.OK || fit.Off(b, f) > half {
				t.Errorf("Frame(%d, %d) is %d off, beyond %d; %v", b, size, fit.Off(b, f), half, e)
			}
		}
	}
}

// Promise P1: of numbers beyond, and frames of any, there is an end, and no panic.
func TestFar(t *testing.T) {
	far := []int64{least, least + 1, -1 << 62, -1<<40 - 1, -1, 0, 1, 1<<40 + 1, 1 << 61, 1 << 62, most - 1, most}
	ints := append(wrong(), 0, 1, 23, 24)
	c := chance(8)
	for range 5000 {
		var f api.Frame
		var b api.Block
		var g [4]int
		for i := range b {
			b[i], f.Q[i] = far[c.below(len(far))], far[c.below(len(far))]
			f.Scale[i/4], f.Width[i/4], g[i/4] = ints[c.below(len(ints))], ints[c.below(len(ints))], ints[c.below(len(ints))]
		}
		for range c.below(5) {
			f.Tones = append(f.Tones, api.Tone{Index: ints[c.below(len(ints))], Value: far[c.below(len(far))]})
		}
		fit.Mask(b)
		fit.Exact(b)
		fit.Search(b, g, ints[c.below(len(ints))], c.below(2) == 0)
		fit.Frame(b, g, ints[c.below(len(ints))])
		fit.Frame(b, [4]int{}, 24+c.below(73))
		fit.Off(b, f)
	}
}

// Rule R3: what is handed in is as it was, and what is answered is new.
func TestHandedIn(t *testing.T) {
	b := api.Block{0: 900, 5: -1000, 12: 800}
	f, _ := fit.Frame(b, [4]int{}, 24)
	was := slices.Clone(f.Tones)
	fit.Off(b, f)
	if !slices.Equal(f.Tones, was) || len(was) != 2 {
		t.Error(f.Tones, was)
	}
	again, _ := fit.Frame(b, [4]int{}, 24)
	f.Tones[0] = api.Tone{Index: 7, Value: 7}
	if !slices.Equal(again.Tones, was) {
		t.Error(again.Tones, was)
	}
	once, _ := fit.Search(b, [4]int{}, 0, true)
	twice, _ := fit.Search(b, [4]int{}, 0, true)
	once.Tones[0] = api.Tone{}
	if !slices.Equal(twice.Tones, was) {
		t.Error(twice.Tones, was)
	}
}
