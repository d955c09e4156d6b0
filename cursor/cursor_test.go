package cursor_test

import (
	"bytes"
	"math"
	"slices"
	"testing"

	"calliope/api"
	"calliope/bank"
	"calliope/cache"
	"calliope/cursor"
	"calliope/disk"
	"calliope/fetch"
	"calliope/frame"
	"calliope/lap"
	"calliope/veil"
)

// chance is a row of numbers that look like chance, and are the same in each run.
type chance uint64

func (c *chance) next() uint64 {
	*c = *c*6364136223846793005 + 1442695040888963407
	x := uint64(*c)
	return x ^ x>>29
}

func (c *chance) below(n int) int {
	return int(c.next() >> 33 % uint64(n))
}

// samples are so many, louder and quieter in turn, each eight of them.
func (c *chance) samples(length int) []int {
	l := make([]int, length)
	quiet := 0
	for i := range l {
		if i%8 == 0 {
			quiet = c.below(12)
		}
		l[i] = (c.below(1<<16) - 1<<15) >> quiet
	}
	return l
}

// order is each number below n once.
func (c *chance) order(n int) []int {
	l := make([]int, n)
	for i := range l {
		k := c.below(i + 1)
		l[i] = l[k]
		l[k] = i
	}
	return l
}

// list are so many samples of one or two channels in turn, of at most so many samples each.
func (c *chance) list(n, most int) []api.Sample {
	var l []api.Sample
	for i := range n {
		s := api.Sample{Name: string([]byte{'s', byte('0' + i)}), Rate: 8000}
		length := 1 + c.below(most)
		for range 1 + i%2 {
			s.Data = append(s.Data, c.samples(length))
		}
		l = append(l, s)
	}
	return l
}

// frame is one whose spectrum's numbers need at most so many bits, and somewhat more at its tones; it has room in 96 bytes.
func (c *chance) frame(most int) api.Frame {
	f := api.Frame{}
	for k := range 4 {
		f.Gains[k], f.Width[k] = c.below(4), c.below(min(most, 24)+1)
		f.Scale[k] = c.below(min(24, most-f.Width[k]+1))
	}
	for i := range f.Q {
		if w := f.Width[i/4]; w > 0 {
			f.Q[i] = int64(c.next()>>1%(1<<w)) - 1<<(w-1)
		}
	}
	for i := c.below(30); i < 16 && len(f.Tones) < 2; i += 1 + c.below(10) {
		f.Tones = append(f.Tones, api.Tone{Index: i, Value: int64(c.below(1<<min(most, 24))) - 1<<(min(most, 24)-1)})
	}
	return f
}

// mono is a sample of one channel.
func mono(l []int) api.Sample {
	return api.Sample{Name: "a", Rate: 8000, Data: [][]int{l}}
}

// ramp is a sample of which each number is another one.
func ramp(n int) api.Sample {
	l := make([]int, n)
	for i := range l {
		l[i] = 100*i + 7
	}
	return mono(l)
}

// far are numbers of samples, channels and places that there are not.
func far() []int {
	return []int{math.MinInt, math.MinInt + 1, -1 << 62, -1 << 40, -1 << 32, -1 << 31, -64, -16, -2, -1, 1 << 20, 1<<20 + 1, 1 << 31, 1 << 32, 1<<32 + 1, 1 << 40, 1 << 60, 1 << 61, 1 << 62, math.MaxInt - 15, math.MaxInt - 1, math.MaxInt}
}

// pack is the image of samples.
func pack(t *testing.T, size int, l ...api.Sample) []byte {
	t.Helper()
	b, e := bank.Pack(size, l...)
	if e != api.OK {
		t.Fatal(e)
	}
	return b
}

// build is the image of one sample of one channel, of so many samples, with these frames of 96 bytes.
func build(t *testing.T, length int, frames ...api.Frame) []byte {
	t.Helper()
	var l [][]byte
	for _, f := range frames {
		b, e := frame.Bytes(f, 96)
		if e != api.OK {
			t.Fatal(e)
		}
		l = append(l, b)
	}
	b, e := bank.Build(96, []api.Meta{{Name: "a", Length: length, Rate: 8000, Channels: 1}}, l)
	if e != api.OK {
		t.Fatal(e)
	}
	return b
}

// fetchOf is a fetch of an image's frames through a cache whose disk has that image, or another one.
func fetchOf(t *testing.T, image, onDisk []byte, slots, retry int) *fetch.Fetch {
	t.Helper()
	x, e := bank.Parse(image)
	d, g := disk.New(onDisk)
	c, h := cache.New(d, slots, retry)
	f, i := fetch.New(x, c)
	if e != api.OK || g != api.OK || h != api.OK || i != api.OK {
		t.Fatal(e, g, h, i)
	}
	return f
}

// open is a cursor that there must be.
func open(t *testing.T, f *fetch.Fetch, sample, channel int) *cursor.Cursor {
	t.Helper()
	c, e := cursor.New(f, sample, channel)
	if e != api.OK || c == nil {
		t.Fatal(c, e)
	}
	return c
}

// place is where a block's frame begins in the image of the fetch's bank.
func place(t *testing.T, f *fetch.Fetch, sample, channel, block int) int {
	t.Helper()
	at, _, e := f.Bank().Where(sample, channel, block)
	if e != api.OK {
		t.Fatal(e)
	}
	return at
}

// without is a disk's image of which these blocks of the first sample's first channel are lost.
func without(t *testing.T, image []byte, blocks ...int) []byte {
	t.Helper()
	f := fetchOf(t, image, image, 1, 0)
	other := bytes.Clone(image)
	for _, block := range blocks {
		other[place(t, f, 0, 0, block)] ^= 1
	}
	return other
}

// spoil lets a block's frame be lost, and no other one, if frames have more bytes than pages.
func spoil(t *testing.T, f *fetch.Fetch, block int) {
	t.Helper()
	at := place(t, f, 0, 0, block)
	if e := f.Disk().Spoil(at/64, at%64, 1); e != api.OK {
		t.Fatal(e)
	}
	f.Evict(at / 64)
}

// heal lets all pages be as they were.
func heal(f *fetch.Fetch) {
	for page := range f.Disk().Pages() {
		f.Disk().Heal(page)
	}
	f.Empty()
}

// model tells what a cursor does in another way: it looks back at all that was asked, and has a fetch of its own, to which the same is done.
type model struct {
	c       *cursor.Cursor
	own     *fetch.Fetch // the cursor's
	twin    *fetch.Fetch
	sample  int
	channel int
	meta    api.Meta
	uses    []int              // all blocks that were used
	fetched []*api.Frame       // all that were fetched; nil ones were lost
	pieces  map[int]veil.Piece // of each block, as it was fetched last
	missing []int
}

// newModel is a cursor, and its model, of a channel of an image, or of another one that the disk has.
func newModel(t *testing.T, image, onDisk []byte, slots, retry, sample, channel int) *model {
	t.Helper()
	m := &model{own: fetchOf(t, image, onDisk, slots, retry), twin: fetchOf(t, image, onDisk, slots, retry), sample: sample, channel: channel, pieces: map[int]veil.Piece{}}
	m.c = open(t, m.own, sample, channel)
	m.meta, _ = m.own.Bank().Meta(sample)
	return m
}

// both does something to both fetches.
func (m *model) both(do func(f *fetch.Fetch)) {
	do(m.own)
	do(m.twin)
}

// blocks is how many blocks there are.
func (m *model) blocks() int {
	n := 0
	for from := 0; from < m.meta.Length; from += 16 {
		n++
	}
	return n
}

// held are the four blocks that were used last, the last one first.
func (m *model) held() []int {
	var l []int
	for i := len(m.uses) - 1; i >= 0 && len(l) < 4; i-- {
		if !slices.Contains(l, m.uses[i]) {
			l = append(l, m.uses[i])
		}
	}
	return l
}

// lost is how many frames were lost since the last good one.
func (m *model) lost() int {
	k := 0
	for k < len(m.fetched) && m.fetched[len(m.fetched)-1-k] == nil {
		k++
	}
	return k
}

// standing is the piece of the frame that was fetched last, or what stands in for it.
func (m *model) standing() veil.Piece {
	k := m.lost()
	if k == len(m.fetched) || k > 4 {
		return veil.Piece{}
	}
	good := m.fetched[len(m.fetched)-1-k]
	p := veil.Piece{Spectrum: frame.Spectrum(*good), Gains: good.Gains}
	for i := range p.Spectrum {
		p.Spectrum[i] /= []int64{1, 2, 4, 8, 16}[k]
	}
	return p
}

// use uses a block.
func (m *model) use(block int) {
	if !slices.Contains(m.held(), block) {
		f, e := m.twin.Frame(m.sample, m.channel, block)
		if e == api.OK {
			m.fetched = append(m.fetched, &f)
		} else {
			m.fetched = append(m.fetched, nil)
			m.missing = append(m.missing, block)
		}
		m.pieces[block] = m.standing()
	}
	m.uses = append(m.uses, block)
}

// want is what the sample at a place must be: of the whole of the blocks that it needs, and no others.
func (m *model) want(at int) int {
	if at < 0 || at >= m.meta.Length {
		return 0
	}
	first, last := at/16, at/16
	if at%16 < 8 && first > 0 {
		first--
	} else if at%16 >= 8 && last+1 < m.blocks() {
		last++
	}
	m.use(first)
	m.use(last)
	var spectra []api.Block
	var gains [][4]int
	for block := first; block <= last; block++ {
		spectra = append(spectra, m.pieces[block].Spectrum)
		gains = append(gains, m.pieces[block].Gains)
	}
	v := lap.New().Whole(spectra, gains, 32)[at-16*first]
	if v < -32768 {
		return -32768
	}
	if v > 32767 {
		return 32767
	}
	return int(v)
}

// at asks for a sample.
func (m *model) at(t *testing.T, at int) int {
	t.Helper()
	want := m.want(at)
	if got := m.c.At(at); got != want {
		t.Fatalf("At(%d) = %d; want %d; used: %d", at, got, want, m.uses)
	}
	m.alike(t)
	return want
}

// run asks for samples, one by one.
func (m *model) run(t *testing.T, from, n int) []int {
	t.Helper()
	want := []int{}
	for i := range n {
		want = append(want, m.want(from+i))
	}
	if got := m.c.Run(from, n); !slices.Equal(got, want) {
		t.Fatalf("Run(%d, %d) = %d; want %d", from, n, got, want)
	}
	m.alike(t)
	return want
}

// alike holds what a cursor tells, and what it did to its fetch, against the model.
func (m *model) alike(t *testing.T) {
	t.Helper()
	if got, want := m.c.Held(), m.held(); !slices.Equal(got, want) {
		t.Fatalf("held are %d; want %d; used: %d", got, want, m.uses)
	}
	if m.c.Frames() != len(m.fetched) || m.c.Lost() != m.lost() || m.c.Length() != m.meta.Length {
		t.Fatalf("%d frames, %d lost, %d samples; want %d, %d, %d", m.c.Frames(), m.c.Lost(), m.c.Length(), len(m.fetched), m.lost(), m.meta.Length)
	}
	if m.own.Frames() != m.twin.Frames() || m.own.Missed() != m.twin.Missed() || m.own.Told() != m.twin.Told() || m.own.Disk().Reads() != m.twin.Disk().Reads() {
		t.Fatalf("%d, %d, %+v; want %d, %d, %+v", m.own.Frames(), m.own.Missed(), m.own.Told(), m.twin.Frames(), m.twin.Missed(), m.twin.Told())
	}
}

// asked asks which blocks were lost, twice: then there are none.
func (m *model) asked(t *testing.T) []int {
	t.Helper()
	want := m.missing
	m.missing = nil
	if got := m.c.Missing(); !slices.Equal(got, want) {
		t.Fatalf("missing are %d; want %d", got, want)
	}
	if got := m.c.Missing(); len(got) != 0 {
		t.Fatalf("missing are %d once more", got)
	}
	m.alike(t)
	return want
}

// The chapter's example: of two blocks both are fetched, each once.
func TestExample(t *testing.T) {
	for _, n := range []int{17, 32} {
		s := ramp(n)
		c := open(t, fetchOf(t, pack(t, 60, s), pack(t, 60, s), 1, 0), 0, 0)
		if a, b := c.At(0), c.At(15); a != 7 || b != 1507 || c.Frames() != 2 || !slices.Equal(c.Held(), []int{1, 0}) {
			t.Fatal(a, b, c.Frames(), c.Held())
		}
		c.At(0)
		if c.At(15); c.Frames() != 2 {
			t.Fatal(c.Frames())
		}
	}
}

// The chapter's Kept, which fits any kind of number.
func TestKept(t *testing.T) {
	var small int8 = cursor.Kept
	if small != 4 || len([cursor.Kept]int{}) != 4 {
		t.Fatal(small)
	}
}

// Promise 20.1: of each channel of each sample there is a cursor, that has asked for nothing, and knows its length.
func TestNew(t *testing.T) {
	r := chance(1)
	l := r.list(5, 90)
	image := pack(t, 40, l...)
	f := fetchOf(t, image, image, 3, 0)
	for i, s := range l {
		for channel := range s.Data {
			c := open(t, f, i, channel)
			if c.Length() != len(s.Data[0]) || c.Frames() != 0 || len(c.Held()) != 0 || len(c.Missing()) != 0 || c.Lost() != 0 {
				t.Fatal(c.Length(), c.Frames(), c.Held(), c.Missing(), c.Lost())
			}
		}
	}
	if f.Frames() != 0 || f.Told() != (cache.Stats{}) || f.Disk().Reads() != 0 {
		t.Fatal(f.Frames(), f.Told(), f.Disk().Reads())
	}
}

// Promise 20.1: a fetch without a bank is ErrArg, a sample that there is not Meta's error, a channel that there is not ErrRange: the first of these.
func TestNewWrong(t *testing.T) {
	r := chance(2)
	image := pack(t, 24, r.list(2, 20)...) // the first one has one channel, the second one two
	f := fetchOf(t, image, image, 1, 0)
	numbers := append(far(), 0, 1, 2, 3, 64, 256)
	for _, i := range numbers {
		for _, channel := range numbers {
			want := api.OK
			if i < 0 || i > 1 {
				want = api.ErrNone
			} else if channel < 0 || channel > i {
				want = api.ErrRange
			}
			if c, e := cursor.New(f, i, channel); e != want || (c == nil) != (want != api.OK) {
				t.Fatalf("New(f, %d, %d): %v, %v; want %v", i, channel, c, e, want)
			}
			for _, none := range []*fetch.Fetch{nil, {}, new(fetch.Fetch), {Cache: f.Cache}} {
				if c, e := cursor.New(none, i, channel); e != api.ErrArg || c != nil {
					t.Fatalf("New(%v, %d, %d): %v, %v", none, i, channel, c, e)
				}
			}
		}
	}
	empty := pack(t, 24)
	if c, e := cursor.New(fetchOf(t, empty, empty, 1, 0), 0, 0); e != api.ErrNone || c != nil {
		t.Fatal(c, e)
	}
	if f.Frames() != 0 || f.Told() != (cache.Stats{}) {
		t.Fatal(f.Frames(), f.Told())
	}
}

// Promises 20.1 and 20.4: of each length up to nine blocks each place, in any order, is as in the whole; where nothing is lost it is as it was.
func TestLengths(t *testing.T) {
	r := chance(3)
	for n := 1; n <= 144; n++ {
		for _, size := range []int{24, 37, 60} {
			s := mono(r.samples(n))
			image := pack(t, size, s)
			m := newModel(t, image, image, 1+r.below(4), 0, 0, 0)
			whole, e := m.own.Bank().Whole(0, 0)
			if e != api.OK || len(whole) != n || size == 60 && !slices.Equal(whole, s.Data[0]) {
				t.Fatal(e, whole)
			}
			for _, at := range r.order(n) {
				if v := m.at(t, at); v != whole[at] {
					t.Fatalf("At(%d) = %d; want %d", at, v, whole[at])
				}
			}
			if l := m.asked(t); len(l) != 0 {
				t.Fatal(l)
			}
			if l := m.run(t, 0, n); !slices.Equal(l, whole) {
				t.Fatal(l, whole)
			}
		}
	}
}

// Promise 20.4: of all sizes, of each channel of some samples, one by one, in runs, forth and back.
func TestSizes(t *testing.T) {
	r := chance(4)
	for size := 24; size <= 96; size++ {
		l := r.list(4, 120)
		image := pack(t, size, l...)
		f := fetchOf(t, image, image, 1+r.below(9), 0)
		for i, s := range l {
			for channel, samples := range s.Data {
				whole, e := f.Bank().Whole(i, channel)
				if e != api.OK || size >= 55 && !slices.Equal(whole, samples) {
					t.Fatal(e)
				}
				c := open(t, f, i, channel)
				for k := range 3 * len(whole) {
					at := r.below(len(whole))
					if k < len(whole) {
						at = len(whole) - 1 - k
					}
					if v := c.At(at); v != whole[at] {
						t.Fatalf("At(%d) = %d; want %d", at, v, whole[at])
					}
				}
				if !slices.Equal(c.Run(0, len(whole)), whole) || len(c.Missing()) != 0 || c.Lost() != 0 {
					t.Fatal("Run", c.Missing(), c.Lost())
				}
			}
		}
	}
}

// Promise 20.1: at places that there are not there is 0, and no block is used; the last block's noughts are no places either.
func TestNoPlace(t *testing.T) {
	r := chance(5)
	for n := 1; n <= 50; n++ {
		s := ramp(n)
		for i := range s.Data[0] {
			s.Data[0][i] = 30000 - r.below(100)
		}
		image := pack(t, 24, s)
		m := newModel(t, image, image, 2, 0, 0, 0)
		for _, at := range append(far(), n, n+1, n+7, n+8, n+15, n+16, n+31, n+32, n+64) {
			m.at(t, at)
		}
		if m.c.Frames() != 0 {
			t.Fatal(m.c.Frames())
		}
		m.at(t, n-1)
		m.at(t, 0)
		for _, at := range append(far(), n, n+1, n+7, n+8, n+15, n+16, n+31, n+32, n+64) {
			m.at(t, at)
		}
	}
}

// Promise 20.1: runs of each length, from places ahead of the beginning up to places behind the end.
func TestRun(t *testing.T) {
	r := chance(6)
	for _, length := range []int{1, 15, 16, 17, 70} {
		image := pack(t, 30, mono(r.samples(length)))
		for from := -40; from <= length+40; from++ {
			m := newModel(t, image, image, 2, 0, 0, 0)
			for _, n := range []int{0, 1, 2, 3, 16, 17, 90, 170} {
				m.run(t, from, n)
			}
		}
	}
}

// Promise 20.1: a run is its places one by one, with all that hangs on their order.
func TestRunOneByOne(t *testing.T) {
	r := chance(7)
	image := pack(t, 24, mono(r.samples(300)))
	for range 200 {
		m := newModel(t, image, image, 2, 0, 0, 0)
		for page := range m.own.Disk().Pages() {
			if fails := r.below(5); fails < 3 {
				m.both(func(f *fetch.Fetch) { f.Disk().Fail(page, fails) })
			}
		}
		for range 10 {
			m.run(t, r.below(380)-40, r.below(120))
		}
		m.asked(t)
	}
}

// Promise 20.1: runs from far places, and of fewer than none, end, and use no block; those from up to 2^40 have noughts.
func TestRunFar(t *testing.T) {
	image := pack(t, 24, ramp(40))
	m := newModel(t, image, image, 2, 0, 0, 0)
	m.at(t, 20)
	for _, from := range append(far(), 0, 20, 39, 40) {
		for _, n := range []int{math.MinInt, math.MinInt + 1, -1 << 40, -1 << 31, -2, -1, 0} {
			if l := m.c.Run(from, n); len(l) != 0 {
				t.Fatal(from, n, l)
			}
			m.alike(t)
		}
	}
	for _, from := range far() {
		for _, n := range []int{1, 2, 15, 100} {
			m.run(t, from, n)
		}
		for _, n := range []int{math.MaxInt, math.MaxInt - 1, 1 << 62, 1 << 60, 1 << 40, 1 << 32, 1 << 31} {
			if l := m.c.Run(from, n); l != nil {
				t.Fatal(from, n, len(l))
			}
		}
	}
	l := m.c.Run(-1<<20, 1<<21)
	want := make([]int, 1<<21)
	copy(want[1<<20:], m.c.Run(0, 40))
	if !slices.Equal(l, want) {
		t.Fatal("a long run")
	}
}

// Promises 20.1 and 20.4: of the longest sample, forth, and here and there.
func TestLongest(t *testing.T) {
	r := chance(8)
	l := r.samples(1 << 20)
	image := pack(t, 40, mono(l))
	f := fetchOf(t, image, image, 4, 0)
	whole, e := f.Bank().Whole(0, 0)
	if e != api.OK {
		t.Fatal(e)
	}
	c := open(t, f, 0, 0)
	if !slices.Equal(c.Run(0, 1<<20), whole) || c.Frames() != 1<<16 || c.Length() != 1<<20 {
		t.Fatal(c.Frames(), c.Length())
	}
	for range 20000 {
		if at := r.below(1 << 20); c.At(at) != whole[at] {
			t.Fatal(at)
		}
	}
	if c.At(1<<20-1) != whole[1<<20-1] || c.At(1<<20) != 0 || c.At(0) != whole[0] || len(c.Missing()) != 0 {
		t.Fatal("the ends")
	}
}

// Promise 20.1: each sample is held within its bounds: frames that no samples have, of spectra of all sizes.
func TestBounds(t *testing.T) {
	r := chance(9)
	low, high, between := 0, 0, 0
	for _, most := range []int{8, 14, 16, 18, 20, 24, 32, 47} {
		for range 40 {
			var frames []api.Frame
			for range 7 {
				f := r.frame(most)
				if !frame.Right(f) {
					t.Fatal(f)
				}
				frames = append(frames, f)
			}
			image := build(t, 105, frames...)
			m := newModel(t, image, image, 2, 0, 0, 0)
			for _, v := range m.run(t, 0, 105) {
				switch v {
				case -32768:
					low++
				case 32767:
					high++
				default:
					between++
				}
			}
			for _, at := range r.order(105) {
				m.at(t, at)
			}
			whole, e := m.own.Bank().Whole(0, 0)
			if got := m.c.Run(0, 105); e != api.OK || !slices.Equal(got, whole) {
				t.Fatal(got, whole)
			}
		}
	}
	if low < 1000 || high < 1000 || between < 1000 {
		t.Fatal(low, high, between)
	}
}

// Promise 20.1: a sample has the gains of its own block, not those of the one that it meets.
func TestGains(t *testing.T) {
	a, b := api.Frame{Width: [4]int{14, 14, 14, 14}, Gains: [4]int{3, 0, 1, 2}}, api.Frame{Width: [4]int{14, 14, 14, 14}, Gains: [4]int{0, 3, 2, 1}}
	for i := range a.Q {
		a.Q[i], b.Q[i] = int64(400*i-3000), int64(2500-300*i)
	}
	image := build(t, 48, a, b, a)
	m := newModel(t, image, image, 2, 0, 0, 0)
	for at := range 48 {
		m.at(t, at)
	}
	flat := open(t, fetchOf(t, build(t, 48, b, a, b), build(t, 48, b, a, b), 2, 0), 0, 0)
	if slices.Equal(flat.Run(0, 48), m.c.Run(0, 48)) {
		t.Fatal("the gains change nothing")
	}
}

// Promise 20.2: each row of four halves of seven blocks, which use one block or two: what is kept, and how many were fetched.
func TestHeld(t *testing.T) {
	image := pack(t, 24, ramp(112))
	for row := range 14 * 14 * 14 * 14 {
		m := newModel(t, image, image, 16, 0, 0, 0)
		for range 4 {
			m.at(t, row%14*8)
			row /= 14
		}
	}
}

// Promise 20.2: the four that were used last are kept, by when they were used, not by when they were fetched.
func TestHeldByHand(t *testing.T) {
	image := pack(t, 24, ramp(160))
	c := open(t, fetchOf(t, image, image, 1, 0), 0, 0)
	for _, x := range []struct {
		at     int
		held   []int
		frames int
	}{
		{0, []int{0}, 1},
		{159, []int{9, 0}, 2},
		{7, []int{0, 9}, 2},
		{8, []int{1, 0, 9}, 3},
		{23, []int{1, 0, 9}, 3},
		{24, []int{2, 1, 0, 9}, 4},
		{152, []int{9, 2, 1, 0}, 4},
		{64, []int{4, 3, 9, 2}, 6},
		{160, []int{4, 3, 9, 2}, 6},
		{-1, []int{4, 3, 9, 2}, 6},
		{159, []int{9, 4, 3, 2}, 6},
		{32, []int{2, 1, 9, 4}, 8},
		{48, []int{3, 2, 1, 9}, 9},
		{31, []int{2, 1, 3, 9}, 9},
		{144, []int{9, 8, 2, 1}, 11},
	} {
		c.At(x.at)
		if !slices.Equal(c.Held(), x.held) || c.Frames() != x.frames {
			t.Fatalf("At(%d): %d, %d frames; want %d, %d", x.at, c.Held(), c.Frames(), x.held, x.frames)
		}
	}
}

// Promise 20.2 and the document's G4: a run fetches each block that it needs once, in order; so does the same run again, if it needs more than four.
func TestFrames(t *testing.T) {
	image := pack(t, 24, ramp(325))
	m := newModel(t, image, image, 2, 0, 0, 0)
	m.run(t, 0, 325)
	if m.c.Frames() != 21 || !slices.Equal(m.c.Held(), []int{20, 19, 18, 17}) {
		t.Fatal(m.c.Frames(), m.c.Held())
	}
	m.run(t, 0, 325)
	if m.c.Frames() != 42 {
		t.Fatal(m.c.Frames())
	}
	for n := 1; n < 200; n += 7 {
		for from := range 40 {
			c := open(t, m.own, 0, 0)
			if c.Run(from, n); c.Frames() > n/16+3 {
				t.Fatal(from, n, c.Frames())
			}
		}
	}
}

// Promise 20.2: frames that were lost were fetched, too; and the pages that a fetch has are none of it.
func TestFramesLost(t *testing.T) {
	image := pack(t, 24, ramp(100))
	f := fetchOf(t, image, image, 1024, 0)
	a, b := open(t, f, 0, 0), open(t, f, 0, 0)
	a.Run(0, 100)
	b.At(50)
	if a.Frames() != 7 || b.Frames() != 2 || f.Frames() != 9 {
		t.Fatal(a.Frames(), b.Frames(), f.Frames())
	}
	for page := range f.Disk().Pages() {
		f.Disk().Fail(page, -1)
	}
	f.Empty()
	b.At(99)
	if a.Frames() != 7 || b.Frames() != 4 || f.Frames() != 11 || f.Missed() != 2 {
		t.Fatal(a.Frames(), b.Frames(), f.Frames(), f.Missed())
	}
}

// Promise 20.2: blocks are missing in the order in which they were lost, as often as they were, each told once.
func TestMissing(t *testing.T) {
	image := pack(t, 24, ramp(160))
	c := open(t, fetchOf(t, image, without(t, image, 1, 4, 5, 8, 9), 4, 0), 0, 0)
	tell := func(want []int, places ...int) {
		t.Helper()
		for _, at := range places {
			c.At(at)
		}
		for range 2 {
			if got := c.Missing(); !slices.Equal(got, want) {
				t.Fatalf("missing are %d; want %d", got, want)
			}
			want = nil
		}
	}
	tell(nil)
	tell(nil, 0, 48)
	tell([]int{4}, 56, 60)
	tell(nil, -1, 160, 63, 64)
	tell([]int{9, 8, 1}, 159, 143, 16)
	tell(nil, 16, 143, 159) // all of them are kept
	tell([]int{4, 5}, 79, 64)
	tell([]int{1, 8, 9, 4, 1}, 31, 144, 64, 0, 31) // lost again, some of them twice
	if c.Lost() != 0 {
		t.Fatal(c.Lost())
	}
}

// Promise 20.2: what nobody asked for stays, however much it is.
func TestMissingLong(t *testing.T) {
	image := pack(t, 24, ramp(160))
	c := open(t, fetchOf(t, image, without(t, image, 0, 1, 2, 3, 4, 5, 6, 7, 8, 9), 4, 0), 0, 0)
	for range 3000 {
		c.Run(0, 160)
	}
	l := c.Missing()
	if len(l) != 30000 || c.Lost() != 30000 || c.Frames() != 30000 {
		t.Fatal(len(l), c.Lost(), c.Frames())
	}
	for i, block := range l {
		if block != i%10 {
			t.Fatal(i, block)
		}
	}
	if l := c.Missing(); len(l) != 0 {
		t.Fatal(l)
	}
}

// The chapter's words: what stands in, by hand: the last good frame's piece, half as loud each time; behind four silence, until a good one comes.
func TestStandsIn(t *testing.T) {
	loud := api.Frame{Gains: [4]int{1, 2, 0, 3}, Width: [4]int{16, 16, 16, 16}, Q: api.Block{12000, -9001, 7003, -5, 3, 30000, -30000, 1, -1, 15, -15, 16, -16, 17, 8191, -8192}}
	quiet := api.Frame{Gains: [4]int{0, 0, 1, 0}, Width: [4]int{12, 12, 12, 12}, Q: api.Block{5: 900, 6: -900, 15: 77}}
	var frames []api.Frame
	for block := range 14 {
		frames = append(frames, quiet)
		if block%7 == 0 {
			frames[block] = loud
		}
	}
	lost := []int{1, 2, 3, 4, 5, 6, 8, 9, 10, 11}
	image := build(t, 14*16, frames...)
	m := newModel(t, image, without(t, image, lost...), 4, 0, 0, 0)
	got := m.run(t, 0, 14*16)
	if l := m.asked(t); !slices.Equal(l, lost) {
		t.Fatal(l)
	}
	// The same by frames that are all there: of such a run each lost one is laid as what stands in for it.
	for block := range frames {
		k := block % 7
		if block > 11 {
			continue
		}
		frames[block] = loud
		for i := range frames[block].Q {
			frames[block].Q[i] /= 1 << k
		}
		if k > 4 {
			frames[block] = api.Frame{}
		}
	}
	image = build(t, 14*16, frames...)
	if want := open(t, fetchOf(t, image, image, 4, 0), 0, 0).Run(0, 14*16); !slices.Equal(got, want) {
		t.Fatalf("%d; want %d", got, want)
	}
	if got[5*16+8] != 0 || got[6*16+3] != 0 || got[6*16+8] == 0 || got[4*16] == 0 {
		t.Fatal("silence is where it should not be")
	}
}

// The chapter's words: ahead of any good frame silence stands in; the last good one is the one that was fetched last, wherever it lies.
func TestLastGood(t *testing.T) {
	frames := make([]api.Frame, 10)
	for block := range frames {
		frames[block].Width[0] = 14
		frames[block].Q[0], frames[block].Q[3] = int64(500*block+300), int64(-200*block)
	}
	image := build(t, 160, frames...)
	lost := without(t, image, 0, 4, 5)
	m := newModel(t, image, lost, 4, 0, 0, 0)
	if v := m.at(t, 0); v != 0 || m.c.Lost() != 1 {
		t.Fatal(v, m.c.Lost())
	}
	heard := map[int]bool{}
	for _, places := range [][]int{{}, {159}, {16, 24}, {104}, {120, 159, 16}, {0}, {0, 0, 159, 0}} {
		m = newModel(t, image, lost, 4, 0, 0, 0)
		for _, at := range places {
			m.at(t, at)
		}
		heard[m.at(t, 75)] = true // of 4 and 5
		m.asked(t)
	}
	if len(heard) < 5 {
		t.Fatal(heard)
	}
}

// The chapter's words: what stood in for a lost block stays while it is kept, also when its frame could be had again; so does a good one whose frame is lost since. One that went is fetched anew.
func TestKeptAsItWas(t *testing.T) {
	image := pack(t, 80, ramp(200))
	m := newModel(t, image, image, 1024, 0, 0, 0)
	m.both(func(f *fetch.Fetch) { spoil(t, f, 3) })
	m.at(t, 32) // 1 and 2
	stood := m.at(t, 48)
	m.both(heal)
	for range 3 {
		if m.at(t, 48) != stood || m.at(t, 63) == 6307 || stood == 4807 {
			t.Fatal("it was fetched anew")
		}
	}
	if l := m.asked(t); !slices.Equal(l, []int{3}) || m.c.Lost() != 0 || m.c.Frames() != 4 {
		t.Fatal(l, m.c.Lost(), m.c.Frames())
	}
	m.at(t, 0)
	m.at(t, 199)
	m.at(t, 100) // 6, 5: now 3 is gone
	if m.at(t, 48) != 4807 || m.at(t, 63) != 6307 {
		t.Fatal("it was not fetched anew")
	}
	m.both(func(f *fetch.Fetch) {
		for block := range 13 {
			spoil(t, f, block)
		}
	})
	if m.at(t, 48) != 4807 || m.at(t, 63) != 6307 || len(m.asked(t)) != 0 {
		t.Fatal("a good one was fetched anew")
	}
}

// The chapter's words: a block that is used twice, by one place, is fetched once, also if it is lost.
func TestOneBlock(t *testing.T) {
	for n := 1; n <= 16; n++ {
		image := pack(t, 24, ramp(n))
		m := newModel(t, image, without(t, image, 0), 1, 0, 0, 0)
		for at := range n {
			m.at(t, at)
		}
		if l := m.asked(t); !slices.Equal(l, []int{0}) || m.c.Frames() != 1 || m.c.Lost() != 1 || !slices.Equal(m.c.Held(), []int{0}) {
			t.Fatal(l, m.c.Frames(), m.c.Lost(), m.c.Held())
		}
	}
}

// Promise 20.5: each row of good and lost frames of up to nine blocks, forth and back.
func TestRows(t *testing.T) {
	r := chance(10)
	for n := 1; n <= 9; n++ {
		image := pack(t, 24, mono(r.samples(16*n-r.below(16))))
		for row := range 1 << n {
			var lost []int
			for block := range n {
				if row>>block&1 == 1 {
					lost = append(lost, block)
				}
			}
			m := newModel(t, image, without(t, image, lost...), 3, 0, 0, 0)
			for at := range m.meta.Length {
				m.at(t, at)
			}
			if l := m.asked(t); !slices.Equal(l, lost) {
				t.Fatal(l, lost)
			}
			for at := range m.meta.Length {
				m.at(t, m.meta.Length-1-at)
			}
			m.asked(t)
		}
	}
}

// Promise 20.5: why a frame is lost changes nothing: a reading that fails, a spoilt byte, a place that the disk has not, or bytes that are no frame.
func TestWhyLost(t *testing.T) {
	image := pack(t, 64, ramp(200))
	f := fetchOf(t, image, image, 1, 0)
	first := place(t, f, 0, 0, 0)
	short := image[:place(t, f, 0, 0, 9)/64*64] // from 9 on; where that begins within a page, from 8 on
	from := (len(short) - first) / 64
	var lost []int
	for block := from; block < 13; block++ {
		lost = append(lost, block)
	}
	fails := fetchOf(t, image, image, 8, 2)
	for page := len(short) / 64; page < fails.Disk().Pages(); page++ {
		fails.Disk().Fail(page, -1)
	}
	spoilt := fetchOf(t, image, image, 8, 0)
	for page := len(short) / 64; page < spoilt.Disk().Pages(); page++ {
		spoilt.Disk().Spoil(page, (first+63)%64, 1) // the last byte of a frame
	}
	want := []int(nil)
	for i, f := range []*fetch.Fetch{
		fetchOf(t, image, without(t, image, lost...), 1024, 8),
		fetchOf(t, image, without(t, image, lost...), 1, 0),
		fetchOf(t, image, short, 3, 1),
		fails,
		spoilt,
		fetchOf(t, noForm(t, image, lost...), noForm(t, image, lost...), 2, 0),
	} {
		c := open(t, f, 0, 0)
		got := append(c.Run(100, 100), c.Run(0, 200)...)
		got = append(got, c.Run(90, 80)...)
		if i == 0 {
			want = got
		}
		if l := c.Missing(); !slices.Equal(got, want) || len(l) == 0 || l[0] != from {
			t.Fatalf("the fetch %d: %d; want %d; missing are %d", i, got, want, l)
		}
	}
}

// noForm is an image of which these blocks are no frames, though their sums are right.
func noForm(t *testing.T, image []byte, blocks ...int) []byte {
	t.Helper()
	x, e := bank.Parse(image)
	if e != api.OK {
		t.Fatal(e)
	}
	var frames [][]byte
	for block := range bank.Frames(x.Dir()[0]) {
		b, e := x.Bytes(0, 0, block)
		if e != api.OK {
			t.Fatal(e)
		}
		if slices.Contains(blocks, block) {
			clear(b)
		}
		frames = append(frames, b)
	}
	other, e := bank.Build(x.Size(), x.Dir(), frames)
	if e != api.OK {
		t.Fatal(e)
	}
	return other
}

// The document's G2: a frame of other bytes than the bank's image has, whose sum is right all the same, counts as good; the bank's own bytes are not asked.
func TestForged(t *testing.T) {
	a, b := api.Frame{Width: [4]int{14}, Q: api.Block{3000}}, api.Frame{Width: [4]int{14}, Q: api.Block{2: -4000}}
	image := build(t, 48, a, a, a)
	other, e := frame.Bytes(b, 96)
	if e != api.OK {
		t.Fatal(e)
	}
	bad := bytes.Clone(image)
	copy(bad[place(t, fetchOf(t, image, image, 1, 0), 0, 0, 1):], other)
	m := newModel(t, bad, image, 2, 0, 0, 0)
	want := open(t, fetchOf(t, image, image, 2, 0), 0, 0).Run(0, 48)
	if got := m.run(t, 0, 48); !slices.Equal(got, want) || len(m.asked(t)) != 0 {
		t.Fatal(got, want)
	}
	m = newModel(t, bad, bad, 2, 0, 0, 0)
	if got := m.run(t, 0, 48); slices.Equal(got, want) || !slices.Equal(m.asked(t), []int{1}) {
		t.Fatal(got, want)
	}
}

// Promises 20.1, 20.2, 20.4 and 20.5: anything that may be done, in any order, by caches of few and of many slots.
func TestAnything(t *testing.T) {
	r := chance(11)
	lost := 0
	for range 600 {
		size := 24 + r.below(73)
		image := pack(t, size, r.list(3, 300)...)
		sample := r.below(3)
		m := newModel(t, image, image, 1+r.below(12), r.below(3), sample, r.below(1+sample%2))
		n := m.meta.Length
		for range 150 {
			page := r.below(m.own.Disk().Pages())
			switch r.below(12) {
			case 0:
				fails := r.below(8) - 1
				m.both(func(f *fetch.Fetch) { f.Disk().Fail(page, fails) })
			case 1:
				at, xor := r.below(64), byte(r.below(256))
				m.both(func(f *fetch.Fetch) { f.Disk().Spoil(page, at, xor) })
			case 2:
				m.both(func(f *fetch.Fetch) { f.Disk().Heal(page) })
			case 3:
				m.both(func(f *fetch.Fetch) { f.Evict(page) })
			case 4:
				m.both(func(f *fetch.Fetch) { f.Empty() })
			case 5:
				lost += len(m.asked(t))
			case 6:
				m.run(t, r.below(n+40)-20, r.below(60))
			case 7:
				m.both(heal)
			default:
				m.at(t, r.below(n+2)-1)
			}
		}
		lost += len(m.asked(t))
	}
	if lost < 1000 {
		t.Fatal(lost)
	}
}

// Promise 20.5: what a cursor answers hangs on which fetches fail, not on the cache, nor on who else has its frames of it.
func TestWhateverCache(t *testing.T) {
	r := chance(12)
	image := pack(t, 24, mono(r.samples(400)))
	other := without(t, image, 2, 3, 9, 10, 11, 12, 13, 14, 20)
	places := make([]int, 600)
	for i := range places {
		places[i] = r.below(400)
	}
	var want []int
	for _, slots := range []int{1, 2, 3, 7, 1024} {
		f := fetchOf(t, image, other, slots, slots%9)
		c, second := open(t, f, 0, 0), open(t, f, 0, 0)
		var got []int
		for i, at := range places {
			got = append(got, c.At(at))
			second.Run(places[len(places)-1-i], i%40)
			if i%50 == 0 {
				f.Empty()
			}
		}
		got = append(got, c.Missing()...)
		got = append(got, c.Held()...)
		got = append(got, c.Frames(), c.Lost())
		if want == nil {
			want = got
		}
		if !slices.Equal(got, want) {
			t.Fatal(slots, got, want)
		}
	}
}

// The document's section Ways, cursor: a veil is embedded, and is the cursor's own: what is done to it the cursor goes by.
func TestPromoted(t *testing.T) {
	image := pack(t, 24, ramp(160))
	c := open(t, fetchOf(t, image, without(t, image, 4, 5, 6, 7), 4, 0), 0, 0)
	c.At(40) // 2 and 3
	c.At(72) // 4 and 5
	if c.Lost() != 2 || c.Veil.Lost() != 2 {
		t.Fatal(c.Lost(), c.Veil.Lost())
	}
	c.Clear()
	if v := c.At(104); v != 0 || c.Lost() != 2 {
		t.Fatal(v, c.Lost())
	}
	if l := c.Missing(); !slices.Equal(l, []int{4, 5, 6, 7}) {
		t.Fatal(l)
	}
	f := api.Frame{Width: [4]int{14, 14, 14, 14}, Q: api.Block{8000, -8000, 8000}}
	if p := c.Good(f); p != veil.Of(f) || c.Lost() != 0 {
		t.Fatal(p, c.Lost())
	}
	if p := c.Lose(); p != veil.Row(&f, nil)[1] || c.Lost() != 1 {
		t.Fatal(p, c.Lost())
	}
	c.At(159) // 9
	if c.Lost() != 0 || len(c.Missing()) != 0 {
		t.Fatal(c.Lost())
	}
}

// The document's section Ways, cursor: of a frame that the veil was told ahead, it stands in for the first one.
func TestToldAhead(t *testing.T) {
	image := pack(t, 24, ramp(16))
	f := api.Frame{Width: [4]int{14, 14, 14, 14}, Q: api.Block{8000, -8000, 8000}}
	for lost := range 6 {
		c := open(t, fetchOf(t, image, without(t, image, 0), 4, 0), 0, 0)
		c.Good(f)
		for range lost {
			c.Lose()
		}
		want := lap.New().Whole([]api.Block{veil.Row(&f, nil, nil, nil, nil, nil, nil)[1+lost].Spectrum}, nil, 16)
		for at, v := range c.Run(0, 16) {
			if int64(v) != want[at] {
				t.Fatalf("%d lost: At(%d) = %d; want %d", lost, at, v, want[at])
			}
		}
	}
}

// Promise 20.3: of a nil cursor, and ones that New did not give, 0 and nothing, whatever their veils have met.
func TestNotMade(t *testing.T) {
	var met veil.Veil
	met.Good(api.Frame{Width: [4]int{14}, Q: api.Block{8000}})
	met.Lose()
	for _, c := range []*cursor.Cursor{nil, {}, new(cursor.Cursor), {Veil: met}} {
		for range 2 {
			for _, at := range append(far(), 0, 1, 8, 15, 16) {
				if c.At(at) != 0 {
					t.Fatal(c, at)
				}
				for _, n := range []int{math.MinInt, -1, 0, 1, 100, 1 << 31, math.MaxInt} {
					if l := c.Run(at, n); len(l) != 0 {
						t.Fatal(c, at, n, l)
					}
				}
			}
			if c.Length() != 0 || c.Frames() != 0 || len(c.Missing()) != 0 || len(c.Held()) != 0 {
				t.Fatal(c.Length(), c.Frames(), c.Missing(), c.Held())
			}
		}
	}
}

// Rule R1: a cursor whose fetch's cache was taken away has no frames any more; what is kept stays.
func TestCacheTakenAway(t *testing.T) {
	image := pack(t, 60, ramp(100))
	f := fetchOf(t, image, image, 4, 0)
	c := open(t, f, 0, 0)
	c.At(20)
	f.Cache = nil
	if c.At(20) != 2007 || c.At(0) != 7 {
		t.Fatal(c.At(20), c.At(0))
	}
	c.At(99)
	if l := c.Missing(); !slices.Equal(l, []int{5, 6}) || c.Lost() != 2 || c.Frames() != 4 {
		t.Fatal(l, c.Lost(), c.Frames())
	}
}

// Rule R4: cursors of one fetch are apart from one another: other channels, other samples, and the same ones.
func TestApart(t *testing.T) {
	r := chance(13)
	l := r.list(4, 200)
	image := pack(t, 60, l...)
	f := fetchOf(t, image, image, 3, 0)
	var cursors []*cursor.Cursor
	var data [][]int
	for i, s := range l {
		for channel := range s.Data {
			cursors = append(cursors, open(t, f, i, channel), open(t, f, i, channel))
			data = append(data, s.Data[channel], s.Data[channel])
		}
	}
	for range 3000 {
		k := r.below(len(cursors) - 1)
		at := r.below(len(data[k]))
		if v := cursors[k].At(at); v != data[k][at] {
			t.Fatalf("the cursor %d: At(%d) = %d; want %d", k, at, v, data[k][at])
		}
	}
	if c := cursors[len(cursors)-1]; c.Frames() != 0 || len(c.Held()) != 0 {
		t.Fatal(c.Frames(), c.Held())
	}
	for page := range f.Disk().Pages() {
		f.Disk().Fail(page, -1)
	}
	f.Empty()
	cursors[len(cursors)-1].At(0)
	for i, c := range cursors {
		if want := i == len(cursors)-1; (c.Lost() == 1) != want || (len(c.Missing()) == 1) != want {
			t.Fatal(i, c.Lost())
		}
	}
}

// Rule R3: what is answered is one's own memory: what is done to it no later answer tells.
func TestMemory(t *testing.T) {
	image := pack(t, 24, ramp(160))
	m := newModel(t, image, without(t, image, 2, 3, 4, 7), 4, 0, 0, 0)
	for range 3 {
		clear(m.c.Run(0, 160))
		for at := range 160 {
			m.want(at)
		}
		held := m.c.Held()
		clear(held)
		clear(append(held[:1], 9, 9, 9))
		l := m.c.Missing()
		if !slices.Equal(l, m.missing) {
			t.Fatal(l, m.missing)
		}
		m.missing = nil
		m.alike(t)
		for i := range 160 {
			m.at(t, 159-i)
		}
		clear(l)
		l = append(l[:0], 9, 9, 9, 9, 9, 9, 9)
		m.asked(t)
		m.run(t, 20, 100)
		m.asked(t)
	}
}
