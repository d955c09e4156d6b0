package code_test

import (
	"bytes"
	"math"
	"slices"
	"testing"

	"calliope/api"
	"calliope/code"
	"calliope/fit"
	"calliope/frame"
	"calliope/lap"
	"calliope/lift"
	"calliope/net"
)

const (
	low  = -32768 // the least sample
	high = 32767  // the greatest one
	long = 1 << 20
)

// chance is a row of numbers that look like chance, and are the same in each run.
type chance uint64

func (c *chance) next() uint64 {
	*c = *c*6364136223846793005 + 1442695040888963407
	x := uint64(*c)
	return x ^ x>>29
}

func (c *chance) below(n int) int {
	return int(c.next() >> 33 % uint64(n))
}

// sample is one that is not beyond some others.
func (c *chance) sample(low, high int) int {
	switch c.below(8) {
	case 0:
		return low
	case 1:
		return high
	case 2:
		return 0
	}
	return low + c.below(high-low+1)
}

// samples are so many, louder and quieter in turn, each four of them.
func (c *chance) samples(length int) []int {
	l := make([]int, length)
	loud := 0
	for i := range l {
		if i%4 == 0 {
			loud = c.below(17)
		}
		if loud < 16 {
			l[i] = c.sample(low>>loud, high>>loud)
		}
	}
	return l
}

// signed is a number that fits so many bits, its ends among them.
func (c *chance) signed(width int) int64 {
	if width == 0 {
		return 0
	}
	half := int(power(width - 1))
	return int64(c.sample(-half, half-1))
}

// frame is one that may be, and has room in so many bytes.
func (c *chance) frame(size int) api.Frame {
	for {
		var f api.Frame
		for place := range 16 {
			if c.below(8) == 0 && len(f.Tones) < 2 {
				f.Tones = append(f.Tones, api.Tone{Index: place, Value: c.signed(24)})
			}
		}
		for k := range 4 {
			f.Gains[k], f.Scale[k], f.Width[k] = c.below(4), c.below(24), c.below(25)
		}
		for i := range f.Q {
			f.Q[i] = c.signed(f.Width[i/4])
		}
		if needs(f) <= 8*size {
			return f
		}
	}
}

// frames are so many, that have room in so many bytes.
func (c *chance) frames(count, size int) []api.Frame {
	l := make([]api.Frame, count)
	for i := range l {
		l[i] = c.frame(size)
	}
	return l
}

// wrong are frames that may not be, each for another reason.
func wrong() []api.Frame {
	return []api.Frame{
		{Gains: [4]int{0, 0, 4, 0}},
		{Gains: [4]int{-1, 0, 0, 0}},
		{Tones: []api.Tone{{Index: 3}, {Index: 3}}},
		{Tones: []api.Tone{{Index: 1}, {Index: 2}, {Index: 3}}},
		{Tones: []api.Tone{{Index: 16}}},
		{Tones: []api.Tone{{Index: -1, Value: 7}}},
		{Tones: []api.Tone{{Index: 3, Value: 1 << 23}}},
		{Scale: [4]int{0, 0, 0, 24}},
		{Width: [4]int{25, 0, 0, 0}},
		{Q: api.Block{7: 1}},
	}
}

// full needs 436 bits, 55 bytes; wide needs 492, 62 bytes.
func full() api.Frame {
	return api.Frame{Width: [4]int{24, 24, 24, 24}, Q: api.Block{0: 8388607, 9: -8388608}}
}

func wide() api.Frame {
	f := full()
	f.Tones = []api.Tone{{Index: 0, Value: -1}, {Index: 15, Value: 1}}
	return f
}

// wrongSizes are those that no frame has.
func wrongSizes() []int {
	return []int{math.MinInt, math.MinInt + 1, -1 << 32, -96, -55, -24, -1, 0, 1, 7, 12, 22, 23, 97, 98, 128, 192, 1 << 32, 1<<32 + 24, 1<<61 + 24, math.MaxInt - 1, math.MaxInt}
}

// beyond are numbers that no sample is.
func beyond() []int {
	return []int{high + 1, low - 1, 65535, 65536, -65536, 1 << 32, 1<<32 + 5, -1 << 32, math.MaxInt, math.MinInt, math.MinInt + 1}
}

// unmade are coders that no call made.
func unmade() []*code.Coder {
	return []*code.Coder{nil, {}, {Lap: lap.New()}}
}

// power is 2 to a power.
func power(n int) int64 {
	v := int64(1)
	for range n {
		v += v
	}
	return v
}

// abs is a number without its sign.
func abs(v int64) int64 {
	if v < 0 {
		return -v
	}
	return v
}

// needs is how many bits a frame needs: those of its head, its tones and its steps.
func needs(f api.Frame) int {
	n := 52 + 28*len(f.Tones)
	for i := range 16 {
		n += f.Width[i/4]
	}
	return n
}

// count is how many blocks so many samples have, one by one.
func count(n int) int {
	blocks := 0
	for room := 0; room < n; room += 16 {
		blocks++
	}
	return blocks
}

// filled are samples as the layers below take them, with noughts up to a whole number of blocks.
func filled(l []int) []int64 {
	var all []int64
	for _, v := range l {
		all = append(all, int64(v))
	}
	for len(all)%16 != 0 {
		all = append(all, 0)
	}
	return all
}

// gains is the chapter's words of the gains of samples: of each quarter the greatest by which it passes its block's peak nowhere, tried from 3 on.
func gains(l []int64, exact bool) [][4]int {
	all := make([][4]int, count(len(l)))
	for i, v := range l {
		g, n := &all[i/16][i%16/4], i/4*4
		if i%4 != 0 || exact {
			continue
		}
		peak, top := abs(v), int64(0)
		for _, v := range l[n:min(n+4, len(l))] {
			peak = max(peak, abs(v))
		}
		for _, v := range l[i/16*16 : min(i/16*16+16, len(l))] {
			top = max(top, abs(v))
		}
		if peak == 0 {
			continue
		}
		for *g = 3; peak*power(*g) > top; *g-- {
		}
	}
	return all
}

// turns are the table's turns, by their numbers.
func turns() [8]api.Turn {
	return [8]api.Turn{
		{P: 512, U: 1023}, {P: 1536, U: 3045}, {P: 2560, U: 4998}, {P: 3584, U: 6841},
		{P: 4608, U: 8540}, {P: 5632, U: 10074}, {P: 6656, U: 11426}, {P: 7680, U: 12593},
	}
}

// met takes numbers one way where blocks meet, in place.
func met(l []int64, way func(a, b int64, t api.Turn) (int64, int64)) {
	for edge := 16; edge < len(l); edge += 16 {
		for k, turn := range turns() {
			l[edge-1-k], l[edge+k] = way(l[edge-1-k], l[edge+k], turn)
		}
	}
}

// told is the chapter's words of the frames of samples.
func told(l []int, size int) []api.Frame {
	all := filled(l)
	own := gains(all, size >= 55)
	for i := range all {
		all[i] *= power(own[i/16][i%16/4])
	}
	met(all, lift.Turn)
	var frames []api.Frame
	for i, g := range own {
		f, e := fit.Frame(net.New().Forward(api.Block(all[16*i:16*i+16])), g, size)
		if e != api.OK {
			panic(e)
		}
		frames = append(frames, f)
	}
	return frames
}

// heard is the chapter's words of the samples of frames, all of them.
func heard(l []api.Frame) []int {
	var all []int64
	for _, f := range l {
		b := net.New().Inverse(frame.Spectrum(f))
		all = append(all, b[:]...)
	}
	met(all, lift.Back)
	samples := make([]int, len(all))
	for i, v := range all {
		samples[i] = int(max(low, min(high, quiet(v, l[i/16].Gains[i%16/4]))))
	}
	return samples
}

// quiet is a number divided by 2 to a power, to the nearest, halves upwards: twice the number and the divisor are divided by twice the divisor, downwards.
func quiet(v int64, n int) int64 {
	divisor := power(n)
	twice := 2*v + divisor
	quotient := twice / (2 * divisor)
	if twice%(2*divisor) < 0 {
		quotient--
	}
	return quotient
}

// laid are the bytes of frames, each of so many.
func laid(l []api.Frame, size int) []byte {
	var all []byte
	for _, f := range l {
		b, e := frame.Bytes(f, size)
		if e != api.OK {
			panic(e)
		}
		all = append(all, b...)
	}
	return all
}

// alike tells whether the frames of two lists are the same.
func alike(a, b []api.Frame) bool {
	return slices.EqualFunc(a, b, func(x, y api.Frame) bool {
		return x.Gains == y.Gains && x.Scale == y.Scale && x.Width == y.Width && x.Q == y.Q && slices.Equal(x.Tones, y.Tones)
	})
}

// made is a coder of a size that frames have.
func made(t *testing.T, size int) *code.Coder {
	t.Helper()
	c, e := code.New(size)
	if e != api.OK || c == nil {
		t.Fatalf("New(%d) = %v, %v", size, c, e)
	}
	return c
}

func wantFrames(t *testing.T, c *code.Coder, l []int, want []api.Frame, wantErr api.Errno) {
	t.Helper()
	if got, e := c.Frames(l); e != wantErr || !alike(got, want) {
		t.Errorf("in %d bytes Frames(%d) = %v, %v; want %v, %v", c.Size(), l, got, e, want, wantErr)
	}
}

// wantRefused holds that samples have no frames, but an error. The samples may be too many to be written out.
func wantRefused(t *testing.T, c *code.Coder, l []int, want api.Errno) {
	t.Helper()
	if got, e := c.Frames(l); e != want || len(got) != 0 {
		t.Errorf("in %d bytes Frames of %d numbers: %d frames, %v; want %v", c.Size(), len(l), len(got), e, want)
	}
}

func wantSamples(t *testing.T, c *code.Coder, l []api.Frame, n int, want []int) {
	t.Helper()
	if got := c.Samples(l, n); !slices.Equal(got, want) {
		t.Errorf("in %d bytes Samples(%v, %d) = %d; want %d", c.Size(), l, n, got, want)
	}
}

func wantBytes(t *testing.T, c *code.Coder, l []api.Frame, want []byte, wantErr api.Errno) {
	t.Helper()
	if got, e := c.Bytes(l...); e != wantErr || !bytes.Equal(got, want) {
		t.Errorf("in %d bytes Bytes(%v) = %x, %v; want %x, %v", c.Size(), l, got, e, want, wantErr)
	}
}

func wantRead(t *testing.T, c *code.Coder, b []byte, want []api.Frame, wantErr api.Errno) {
	t.Helper()
	if got, e := c.Read(b); e != wantErr || !alike(got, want) {
		t.Errorf("in %d bytes Read(%x) = %v, %v; want %v, %v", c.Size(), b, got, e, want, wantErr)
	}
}

func wantRate(t *testing.T, c *code.Coder, n, packed, plain int) {
	t.Helper()
	if got, was := c.Rate(n); got != packed || was != plain {
		t.Errorf("in %d bytes Rate(%d) = %d, %d; want %d, %d", c.Size(), n, got, was, packed, plain)
	}
}

// wantFar holds how far two lists are from one another: either way round it is the same.
func wantFar(t *testing.T, a, b []int, far, unlike int) {
	t.Helper()
	if got, n := code.Far(a, b); got != far || n != unlike {
		t.Errorf("Far(%d, %d) = %d, %d; want %d, %d", a, b, got, n, far, unlike)
	}
	if got, n := code.Far(b, a); got != far || n != unlike {
		t.Errorf("Far(%d, %d) = %d, %d; want %d, %d", b, a, got, n, far, unlike)
	}
}

// wantCoded holds the whole way of samples: their frames, these as bytes, read again, and the samples of these.
func wantCoded(t *testing.T, size int, l []int) {
	t.Helper()
	c := made(t, size)
	want := told(l, size)
	wantFrames(t, c, l, want, api.OK)
	b := laid(want, size)
	wantBytes(t, c, want, b, api.OK)
	wantRead(t, c, b, want, api.OK)
	samples := heard(want)[:len(l)]
	wantSamples(t, c, want, len(l), samples)
	if size >= 55 && !slices.Equal(samples, l) {
		t.Errorf("in %d bytes %d is found again as %d", size, l, samples)
	}
	wantRate(t, c, len(l), len(b), 2*len(l))
}

// The example of the chapter.
func TestTwoSamples(t *testing.T) {
	for size := 24; size <= 96; size++ {
		f, e := made(t, size).Frames([]int{1000, -1000})
		if e != api.OK || len(f) != 1 {
			t.Errorf("in %d bytes two samples have %d frames, %v", size, len(f), e)
		}
		wantCoded(t, size, []int{1000, -1000})
		wantCoded(t, size, []int{high, low})
	}
}

// Promise 13.1, New, Size and Exact: each size that a frame has.
func TestNew(t *testing.T) {
	for size := 24; size <= 96; size++ {
		c := made(t, size)
		if c.Size() != size || c.Exact() != (size > 54) {
			t.Errorf("of %d bytes: %d, %t", size, c.Size(), c.Exact())
		}
	}
}

// Promise 13.1, New: all other sizes are refused.
func TestNewSizes(t *testing.T) {
	for _, size := range wrongSizes() {
		if c, e := code.New(size); c != nil || e != api.ErrSize {
			t.Errorf("New(%d) = %v, %v", size, c, e)
		}
	}
}

// Promise 13.1, Gains: some, worked out by hand; flat from 55 bytes on, of each block.
func TestGainsKnown(t *testing.T) {
	l := []int64{
		10, -10, 3, 0, 0, 80, 0, 0, 0, 0, 0, 0, 41, 0, 0, 0,
		0, 0, 0, 0, 0, 0, 0, 0, 4096, 0, 0, 0, 0, 0, -8191, 8192,
		-32768, 32767, 0, 0, 16384, 0, 0, 0, 0, 16385, 0, 0, -8192, 0, 0, 0,
		1, 1, 1, 1,
	}
	want := [][4]int{{3, 0, 0, 0}, {0, 0, 1, 0}, {0, 1, 0, 2}, {}}
	for size := 24; size <= 96; size++ {
		if size == 55 {
			want = make([][4]int, 4)
		}
		if got := made(t, size).Gains(l); !slices.Equal(got, want) {
			t.Errorf("in %d bytes Gains(%d) = %d; want %d", size, l, got, want)
		}
	}
}

// Promise 13.1, Gains: any samples, of each length.
func TestGainsAny(t *testing.T) {
	c := chance(1)
	for length := range 200 {
		l := filled(c.samples(length))[:length]
		for _, size := range []int{24, 40, 54, 55, 96} {
			got, want := made(t, size).Gains(l), gains(l, size >= 55)
			if !slices.Equal(got, want) {
				t.Errorf("in %d bytes Gains(%d) = %d; want %d", size, l, got, want)
			}
		}
	}
}

// Promise 13.2, Frames and Samples: all sizes, samples of each length, none of them too.
func TestCoded(t *testing.T) {
	c := chance(2)
	for size := 24; size <= 96; size++ {
		for length := range 70 {
			wantCoded(t, size, c.samples(length))
		}
		wantCoded(t, size, c.samples(500+c.below(50)))
	}
}

// Promise 13.2, Frames: a sample hangs on the blocks beside its own, too: each place, alone in three blocks.
func TestCodedAlone(t *testing.T) {
	for i := range 48 {
		for _, size := range []int{24, 30, 54, 55, 96} {
			for _, v := range []int{1, -1, 100, -3000, high, low} {
				l := make([]int, 48)
				l[i] = v
				wantCoded(t, size, l)
			}
		}
	}
}

// Promise 13.2, Frames: as many samples as there may be are told; one more is refused, whatever it is.
func TestFramesLong(t *testing.T) {
	c := chance(3)
	l := c.samples(long + 1)
	for _, size := range []int{24, 55} {
		x := made(t, size)
		f, e := x.Frames(l[:long])
		if e != api.OK || len(f) != 1<<16 {
			t.Fatalf("%d frames, %v", len(f), e)
		}
		got := x.Samples(f, long)
		if len(got) != long || size == 55 && !slices.Equal(got, l[:long]) {
			t.Errorf("in %d bytes %d samples are found again as others", size, long)
		}
		wantRefused(t, x, l, api.ErrLong)
		wantRefused(t, x, make([]int, 2*long), api.ErrLong)
	}
	for _, i := range []int{0, 1000, long} {
		loud := slices.Clone(l)
		loud[i] = high + 1
		wantRefused(t, made(t, 24), loud, api.ErrLong)
		if i < long {
			wantRefused(t, made(t, 24), loud[:long], api.ErrRange)
		}
	}
}

// Promise 13.2, Frames: numbers that are no samples, at each place; the least and the greatest sample are some.
func TestFramesRange(t *testing.T) {
	c := chance(4)
	for _, size := range []int{24, 54, 55, 96} {
		x := made(t, size)
		for i := range 40 {
			l := c.samples(40)
			l[i] = low
			wantCoded(t, size, l)
			l[i] = high
			wantCoded(t, size, l)
			for _, v := range beyond() {
				l[i] = v
				wantRefused(t, x, l, api.ErrRange)
			}
		}
		for _, v := range beyond() {
			wantRefused(t, x, []int{v}, api.ErrRange)
		}
	}
}

// Promise 13.2, Samples: as many as are asked for, and as there are.
func TestSamplesCount(t *testing.T) {
	c := chance(5)
	for _, size := range []int{24, 33, 54, 55, 96} {
		x := made(t, size)
		for blocks := range 5 {
			l := c.frames(blocks, size)
			all := heard(l)
			for _, n := range []int{math.MinInt, -17, -16, -1} {
				wantSamples(t, x, l, n, nil)
			}
			for n := range 100 {
				wantSamples(t, x, l, n, all[:min(n, len(all))])
			}
			wantSamples(t, x, l, math.MaxInt, all)
		}
	}
}

// Promise 13.2, Samples: any frames that may be, quiet ones and loud ones, in whatever size: what stands in them alone counts.
func TestSamplesAny(t *testing.T) {
	c := chance(6)
	for range 300 {
		l := c.frames(1+c.below(6), 96)
		want := heard(l)
		for _, size := range []int{24, 54, 55, 96} {
			wantSamples(t, made(t, size), l, len(want), want)
		}
	}
}

// Promise 13.2, Samples: held within the bounds of a sample, on either side.
func TestSamplesHeld(t *testing.T) {
	for _, v := range []int64{8388607, -8388608} {
		for i := range 16 {
			l := []api.Frame{{Scale: [4]int{8, 8, 8, 8}, Width: [4]int{24, 24, 24, 24}}}
			l[0].Q[i] = v
			got := made(t, 60).Samples(l, 16)
			if !slices.Equal(got, heard(l)) || slices.Min(got) < low || slices.Max(got) > high || !slices.Contains(got, low) && !slices.Contains(got, high) {
				t.Errorf("Samples(%v) = %d", l, got)
			}
		}
	}
}

// Promise 13.2, Samples: what is told as gains is made quiet again, in each quarter by its own, halves upwards.
func TestSamplesGains(t *testing.T) {
	l := []api.Frame{{Width: [4]int{24, 24, 24, 24}, Q: net.New().Forward(api.Block{
		24, -24, 12, -12, 24, -24, 12, -12, 24, -24, 12, -12, 24, -24, 12, -12,
	})}}
	for n, want := range [][]int{{24, -24, 12, -12}, {12, -12, 6, -6}, {6, -6, 3, -3}, {3, -3, 2, -1}} {
		for k := range 4 {
			l[0].Gains = [4]int{}
			l[0].Gains[k] = n
			all := slices.Repeat([]int{24, -24, 12, -12}, 4)
			copy(all[4*k:], want)
			wantSamples(t, made(t, 60), l, 16, all)
		}
	}
}

// Promise 13.3, Bytes and Read: frames that have room, in any number, in each size.
func TestBytesAny(t *testing.T) {
	c := chance(7)
	for size := 24; size <= 96; size++ {
		x := made(t, size)
		for n := range 12 {
			l := c.frames(n, size)
			b := laid(l, size)
			wantBytes(t, x, l, b, api.OK)
			wantRead(t, x, b, l, api.OK)
		}
	}
}

// Promise 13.3, Bytes: frames of noughts, by their bytes; of no frames there are none.
func TestBytesKnown(t *testing.T) {
	for size := 24; size <= 96; size++ {
		x := made(t, size)
		wantBytes(t, x, nil, nil, api.OK)
		wantRead(t, x, nil, nil, api.OK)
		wantRead(t, x, []byte{}, nil, api.OK)
		one := append([]byte{0x40}, make([]byte, size-1)...)
		wantBytes(t, x, make([]api.Frame, 3), slices.Concat(one, one, one), api.OK)
		wantRead(t, x, slices.Concat(one, one, one), make([]api.Frame, 3), api.OK)
	}
}

// Promise 13.3, Bytes: the first frame's error, wherever it stands: one that may not be, or has no room.
func TestBytesErrors(t *testing.T) {
	c := chance(8)
	for size := 24; size <= 96; size++ {
		x := made(t, size)
		for at := range 4 {
			for _, f := range wrong() {
				l := c.frames(4, size)
				l[at] = f
				wantBytes(t, x, l, nil, api.ErrForm)
				if size < 62 {
					l[3] = wide()
					l[at] = f
					wantBytes(t, x, l, nil, api.ErrForm)
					l[0] = wide()
					wantBytes(t, x, l, nil, api.ErrLong)
				}
			}
			l := c.frames(4, size)
			l[at] = full()
			if size < 55 {
				wantBytes(t, x, l, nil, api.ErrLong)
			} else {
				wantBytes(t, x, l, laid(l, size), api.OK)
			}
			l[at] = wide()
			if size < 62 {
				wantBytes(t, x, l, nil, api.ErrLong)
			} else {
				wantBytes(t, x, l, laid(l, size), api.OK)
			}
		}
	}
}

// Promise 13.3, Read: bytes that are no whole number of frames are refused, ahead of what is wrong in them.
func TestReadCut(t *testing.T) {
	c := chance(9)
	for size := 24; size <= 96; size++ {
		x := made(t, size)
		l := c.frames(3, size)
		b := laid(l, size)
		for n := range len(b) + 1 {
			if n%size == 0 {
				wantRead(t, x, b[:n], l[:n/size], api.OK)
				wantRead(t, x, make([]byte, n), nil, []api.Errno{api.OK, api.ErrForm}[min(n, 1)])
				continue
			}
			wantRead(t, x, b[:n], nil, api.ErrSize)
			wantRead(t, x, make([]byte, n), nil, api.ErrSize)
		}
	}
}

// Promise 13.3, Read: the first one's error, wherever it stands: one that is no frame, or ends ahead of its last bit.
func TestReadErrors(t *testing.T) {
	c := chance(10)
	for size := 24; size <= 96; size++ {
		x := made(t, size)
		noughts := make([]byte, size)
		behind := append([]byte{0x40}, noughts[1:]...)
		behind[size-1] = 1
		cut := laid([]api.Frame{wide()}, 62)[:min(size, 62)]
		for at := range 4 {
			b := laid(c.frames(4, size), size)
			copy(b[at*size:], noughts)
			wantRead(t, x, b, nil, api.ErrForm)
			copy(b[at*size:], behind)
			wantRead(t, x, b, nil, api.ErrForm)
			if size < 62 {
				copy(b[at*size:], cut)
				wantRead(t, x, b, nil, api.ErrShort)
				copy(b[3*size:], noughts)
				copy(b[at*size:], cut)
				wantRead(t, x, b, nil, api.ErrShort)
				copy(b, noughts)
				wantRead(t, x, b, nil, api.ErrForm)
			}
		}
	}
}

// Promise 13.3, Rate: all small numbers, the ends, and numbers beyond.
func TestRate(t *testing.T) {
	for size := 24; size <= 96; size++ {
		c := made(t, size)
		for n := range 100 {
			wantRate(t, c, n, count(n)*size, 2*n)
		}
		wantRate(t, c, long, size<<16, 2*long)
		wantRate(t, c, long-15, size<<16, 2*long-30)
		wantRate(t, c, long-16, size<<16-size, 2*long-32)
		for _, n := range []int{-1, -16, -17, -long, math.MinInt, math.MinInt + 1, long + 1, 2 * long, 1 << 32, 1 << 62, math.MaxInt} {
			wantRate(t, c, n, 0, 0)
		}
	}
}

// Promise 13.3, Far: by its numbers; what one list has beyond the other doesn't count.
func TestFarKnown(t *testing.T) {
	wantFar(t, nil, nil, 0, 0)
	wantFar(t, nil, []int{1000}, 0, 0)
	wantFar(t, []int{5, -5, 7}, []int{5, -5, 7}, 0, 0)
	wantFar(t, []int{5, -5, 7}, []int{5, -5, 7, 1000}, 0, 0)
	wantFar(t, []int{5, -5, 7}, []int{6, -5, 5}, 2, 2)
	wantFar(t, []int{5, -5, 7}, []int{2, -5}, 3, 1)
	wantFar(t, []int{-5, 5, 0, 1}, []int{5, -5, 1, 0}, 10, 4)
	wantFar(t, []int{low, 0}, []int{high, 0}, 65535, 1)
	wantFar(t, []int{low, high, low}, []int{low, low, high}, 65535, 2)
	wantFar(t, []int{low, high}, []int{0, 0}, 32768, 2)
}

// Promise 13.3, Far: any samples, against numbers one by one.
func TestFarAny(t *testing.T) {
	c := chance(11)
	for range 500 {
		a := c.samples(c.below(50))
		b := slices.Concat(a, c.samples(c.below(5)))
		if c.below(3) == 0 {
			b = c.samples(c.below(50))
		}
		for range c.below(5) {
			if len(b) > 0 {
				b[c.below(len(b))] = c.sample(low, high)
			}
		}
		far, unlike := 0, 0
		for i, v := range a {
			if i < len(b) && v != b[i] {
				far, unlike = max(far, v-b[i], b[i]-v), unlike+1
			}
		}
		wantFar(t, a, b, far, unlike)
	}
}

// Promises 13.2 and 13.3: coders that no call made know no size of frames: ErrState, ahead of all else that is wrong, and nothing.
func TestUnmade(t *testing.T) {
	for _, c := range unmade() {
		if c.Size() != 0 || c.Exact() || len(c.Gains([]int64{1, 100})) != 0 {
			t.Errorf("%v: %d, %t, %d", c, c.Size(), c.Exact(), c.Gains([]int64{1, 100}))
		}
		wantRefused(t, c, nil, api.ErrState)
		wantRefused(t, c, []int{1, 2}, api.ErrState)
		wantRefused(t, c, []int{high + 1}, api.ErrState)
		wantRefused(t, c, make([]int, long+1), api.ErrState)
		wantSamples(t, c, make([]api.Frame, 2), 32, nil)
		wantSamples(t, c, nil, -1, nil)
		wantBytes(t, c, nil, nil, api.ErrState)
		wantBytes(t, c, make([]api.Frame, 2), nil, api.ErrState)
		wantBytes(t, c, wrong(), nil, api.ErrState)
		wantRead(t, c, nil, nil, api.ErrState)
		wantRead(t, c, make([]byte, 24), nil, api.ErrState)
		for _, n := range []int{math.MinInt, -1, 0, 1, 17, long, long + 1, math.MaxInt} {
			wantRate(t, c, n, 0, 0)
		}
	}
}

// Promise 13.4: the loudest samples, of any sign, in blocks that meet, have room in each size, and are found again, if nothing is lost.
func TestLoudest(t *testing.T) {
	c := chance(12)
	for size := 24; size <= 96; size++ {
		for range 300 {
			l := make([]int, 64)
			for i := range l {
				l[i] = low
				if c.below(2) == 0 {
					l[i] = high
				}
			}
			wantCoded(t, size, l)
		}
	}
}

// Promise 13.4: in a block each row of signs; it has room in the least frames, and is found again in those of 55 bytes.
func TestLoudestBlock(t *testing.T) {
	small, exact := made(t, 24), made(t, 55)
	l := make([]int, 16)
	for n := range 1 << 16 {
		for i := range l {
			l[i] = low
			if n>>i&1 == 1 {
				l[i] = high
			}
		}
		f, e := small.Frames(l)
		b, err := small.Bytes(f...)
		if e != api.OK || err != api.OK || len(b) != 24 {
			t.Fatalf("Frames(%d) = %v, %v, %v", l, f, e, err)
		}
		f, e = exact.Frames(l)
		if e != api.OK || !slices.Equal(exact.Samples(f, 16), l) {
			t.Fatalf("%d is found again as %d, %v", l, exact.Samples(f, 16), e)
		}
	}
}

// Promise 13.4: quiet samples beside loud ones, whose gains are all that may be, have room, too, however they stand.
func TestRoom(t *testing.T) {
	c := chance(13)
	for size := 24; size < 55; size++ {
		for range 100 {
			l := make([]int, 48)
			for i := range l {
				quarter := low >> c.below(4)
				if i%4 > 0 && c.below(2) == 0 {
					quarter = -quarter - 1
				}
				l[i] = quarter
			}
			wantCoded(t, size, l)
		}
	}
}

// A coder has the methods of its lap, and so those of the lap's pairs and net.
func TestPromoted(t *testing.T) {
	c, p := made(t, 30), lap.New()
	l := filled([]int{900, -3, 5, 17: -700, 18: 50, 40: 8})
	blocks := lap.Blocks(l)
	spectra := p.Spectra(l, nil)
	if !slices.Equal(c.Join(blocks), p.Join(blocks)) || !slices.Equal(c.Part(blocks), p.Part(blocks)) {
		t.Error(c.Join(blocks), c.Part(blocks))
	}
	if !slices.Equal(c.Spectra(l, nil), spectra) || !slices.Equal(c.Whole(spectra, nil, 48), l) {
		t.Error(c.Spectra(l, nil), c.Whole(spectra, nil, 48))
	}
	if c.Forward(blocks[0]) != p.Forward(blocks[0]) || c.Inverse(blocks[0]) != p.Inverse(blocks[0]) {
		t.Error(c.Forward(blocks[0]), c.Inverse(blocks[0]))
	}
	if got, want := c.One(&blocks[1], &blocks[0], [4]int{}, 2), p.One(&blocks[1], &blocks[0], [4]int{}, 2); got != want {
		t.Error(got, want)
	}
}

// Promise P1: of any numbers, frames and bytes there is an end, and no panic.
func TestEnds(t *testing.T) {
	ints := append(beyond(), wrongSizes()...)
	ints = append(ints, 2, 3, 15, 24, 25, 40, 60, long, long+1)
	var coders []*code.Coder
	for size := 24; size <= 96; size++ {
		coders = append(coders, made(t, size))
	}
	coders = append(coders, unmade()...)
	// One whose lap turns by other numbers than the table's.
	odd := made(t, 24)
	odd.Pairs = lift.New([8]api.Turn{{P: math.MaxInt64, U: math.MinInt64}, {P: 1 << 40, U: 1 << 40}})
	coders = append(coders, odd)
	c := chance(14)
	some := func() int { return ints[c.below(len(ints))] }
	for range 3000 {
		x := coders[c.below(len(coders))]
		l, numbers, b := make([]int, c.below(50)), make([]int64, c.below(50)), make([]byte, c.below(200))
		frames := make([]api.Frame, c.below(5))
		for i := range l {
			l[i] = some()
		}
		for i := range numbers {
			numbers[i] = int64(some())
		}
		for i := range b {
			b[i] = byte(c.below(256))
		}
		for k := range frames {
			f := &frames[k]
			for i := range f.Q {
				f.Q[i], f.Scale[i/4], f.Width[i/4], f.Gains[i/4] = int64(some()), some(), some(), some()
			}
			for range c.below(4) {
				f.Tones = append(f.Tones, api.Tone{Index: some(), Value: int64(some())})
			}
		}
		x.Size()
		x.Exact()
		x.Gains(numbers)
		x.Frames(l)
		x.Frames(c.samples(len(l)))
		x.Samples(frames, some())
		x.Bytes(frames...)
		x.Read(b)
		x.Rate(some())
		code.Far(l, c.samples(50))
		code.Far(c.samples(50), l)
	}
}

// Rule R3: what is handed in is as it was, and what is answered is new.
func TestHandedIn(t *testing.T) {
	c := chance(15)
	for _, size := range []int{24, 55} {
		x := made(t, size)
		l := c.samples(100)
		numbers := filled(l)
		was, numbersWere := slices.Clone(l), slices.Clone(numbers)
		f, _ := x.Frames(l)
		want := told(l, size)
		x.Gains(numbers)
		b, _ := x.Bytes(f...)
		x.Samples(f, 50)
		if !slices.Equal(l, was) || !slices.Equal(numbers, numbersWere) || !alike(f, want) {
			t.Error("what was handed in has changed")
		}
		read, _ := x.Read(b)
		if !bytes.Equal(b, laid(want, size)) {
			t.Error("bytes that were read have changed")
		}
		clear(b)
		clear(l)
		again, _ := x.Bytes(want...)
		if !alike(read, want) || !alike(f, want) || !bytes.Equal(again, laid(want, size)) {
			t.Error("what was answered is not new")
		}
		samples := x.Samples(f, 100)
		clear(f)
		if again := x.Samples(want, 100); !slices.Equal(samples, again) {
			t.Error(samples, again)
		}
		clear(samples)
		if again := x.Samples(want, 100); !slices.Equal(heard(want)[:100], again) {
			t.Error(again)
		}
	}
}

// Rule R4: what a coder answers hangs on nothing that it was asked ahead.
func TestAgain(t *testing.T) {
	c := chance(16)
	x := made(t, 26)
	l := c.samples(100)
	want := told(l, 26)
	for range 20 {
		wantFrames(t, x, l, want, api.OK)
		x.Frames([]int{high + 1})
		x.Read([]byte{1})
		x.Bytes(wrong()...)
		x.Frames(c.samples(c.below(200)))
	}
}
