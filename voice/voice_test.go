package voice_test

import (
	"bytes"
	"math"
	"math/big"
	"slices"
	"strconv"
	"testing"

	"calliope/api"
	"calliope/bank"
	"calliope/cache"
	"calliope/cursor"
	"calliope/disk"
	"calliope/fetch"
	"calliope/voice"
	"calliope/wave"
)

// chance is a row of numbers that look like chance, and are the same in each run.
type chance uint64

func (c *chance) next() uint64 {
	*c = *c*6364136223846793005 + 1442695040888963407
	x := uint64(*c)
	return x ^ x>>29
}

func (c *chance) below(n int) int {
	return int(c.next() >> 33 % uint64(n))
}

// pitch is any that may be, often one of those that are whole, or near the bounds.
func (c *chance) pitch() int64 {
	switch c.below(6) {
	case 0:
		return int64(c.below(9)) << 32
	case 1:
		return int64(c.below(65)) << 29
	case 2:
		return int64(c.below(4))
	case 3:
		return api.MaxPitch - int64(c.below(4))
	case 4:
		return int64(c.next() >> 31) // up to twice as fast
	}
	return int64(c.next() % (api.MaxPitch + 1))
}

// samples are so many, louder and quieter in turn, each eight of them.
func (c *chance) samples(length int) []int {
	l := make([]int, length)
	quiet := 0
	for i := range l {
		if i%8 == 0 {
			quiet = c.below(12)
		}
		l[i] = (c.below(1<<16) - 1<<15) >> quiet
	}
	return l
}

// sample is one of so many channels and samples, that goes round as it comes.
func (c *chance) sample(name string, channels, length int) api.Sample {
	s := api.Sample{Name: name, Rate: 1 + c.below(192000)}
	for range channels {
		s.Data = append(s.Data, c.samples(length))
	}
	if c.below(2) == 0 {
		s.Loop, s.LoopStart = true, c.below(length)
		s.LoopEnd = s.LoopStart + 1 + c.below(length-s.LoopStart)
	}
	return s
}

// list are so many samples of one or two channels in turn, of at most so many samples each.
func (c *chance) list(n, most int) []api.Sample {
	var l []api.Sample
	for i := range n {
		l = append(l, c.sample("s"+strconv.Itoa(i), 1+i%2, 1+c.below(most)))
	}
	return l
}

// mono is a sample of one channel that does not go round.
func mono(l []int) api.Sample {
	return api.Sample{Name: "a", Rate: 8000, Data: [][]int{l}}
}

// ramp is a sample of so many channels, of which each number is another one.
func ramp(channels, length int) api.Sample {
	s := api.Sample{Name: "a", Rate: 8000}
	for channel := range channels {
		l := make([]int, length)
		for i := range l {
			l[i] = 100*i + 7 - 9000*channel
		}
		s.Data = append(s.Data, l)
	}
	return s
}

// round is a sample that goes round.
func round(s api.Sample, from, to int) api.Sample {
	s.Loop, s.LoopStart, s.LoopEnd = true, from, to
	return s
}

// far are numbers of samples and places that there are not.
func far() []int {
	return []int{math.MinInt, math.MinInt + 1, -1 << 62, -1 << 40, -1 << 32, -1 << 31, -64, -16, -2, -1, 1 << 20, 1<<20 + 1, 1 << 31, 1 << 32, 1<<32 + 1, 1 << 40, 1 << 60, 1 << 61, 1 << 62, math.MaxInt - 15, math.MaxInt - 1, math.MaxInt}
}

// pack is the image of samples.
func pack(t *testing.T, size int, l ...api.Sample) []byte {
	t.Helper()
	b, e := bank.Pack(size, l...)
	if e != api.OK {
		t.Fatal(e)
	}
	return b
}

// fetchOf is a fetch of an image's frames through a cache whose disk has that image, or another one.
func fetchOf(t *testing.T, image, onDisk []byte, slots, retry int) *fetch.Fetch {
	t.Helper()
	x, e := bank.Parse(image)
	d, g := disk.New(onDisk)
	c, h := cache.New(d, slots, retry)
	f, i := fetch.New(x, c)
	if e != api.OK || g != api.OK || h != api.OK || i != api.OK {
		t.Fatal(e, g, h, i)
	}
	return f
}

// open is a voice that there must be.
func open(t *testing.T, f *fetch.Fetch, sample int) *voice.Voice {
	t.Helper()
	v, e := voice.New(f, sample)
	if e != api.OK || v == nil {
		t.Fatal(v, e)
	}
	return v
}

// alone is a voice of a sample that is alone in its image, with its fetch.
func alone(t *testing.T, size int, s api.Sample) (*voice.Voice, *fetch.Fetch) {
	t.Helper()
	image := pack(t, size, s)
	f := fetchOf(t, image, image, 8, 0)
	return open(t, f, 0), f
}

// without is a disk's image of which these blocks of a channel of the first sample are lost.
func without(t *testing.T, image []byte, channel int, blocks ...int) []byte {
	t.Helper()
	x, e := bank.Parse(image)
	other := bytes.Clone(image)
	for _, block := range blocks {
		at, _, g := x.Where(0, channel, block)
		if e != api.OK || g != api.OK {
			t.Fatal(e, g)
		}
		other[at] ^= 1
	}
	return other
}

// blend is the chapter's sum of four samples at a phase, told by a curve through two of them whose slopes are those between their neighbours.
func blend(x [4]int, q int) int {
	if q < 0 || q > 31 {
		return 0
	}
	number := func(v int) *big.Int { return big.NewInt(int64(v)) }
	sum := new(big.Int)
	add := func(weight int, v *big.Int) { sum.Add(sum, v.Mul(v, number(weight))) }
	less := func(a, b int) *big.Int { return new(big.Int).Sub(number(a), number(b)) }
	add(2*(2*q*q*q-3*32*q*q+32*32*32), number(x[1]))
	add(2*(3*32*q*q-2*q*q*q), number(x[2]))
	add(q*q*q-2*32*q*q+32*32*q, less(x[2], x[0]))
	add(q*q*q-32*q*q, less(x[3], x[1]))
	sum.Add(sum, number(1<<15))
	sum.Div(sum, number(1<<16)) // downwards
	switch {
	case sum.Cmp(number(-32768)) < 0:
		return -32768
	case sum.Cmp(number(32767)) > 0:
		return 32767
	}
	return int(sum.Int64())
}

// lies is where a place lies, brought back round by round; -1: nowhere.
func lies(m api.Meta, at int64) int {
	for m.Loop && at >= int64(m.LoopEnd) {
		at -= int64(m.LoopEnd - m.LoopStart)
	}
	if at < 0 || at >= int64(m.Length) {
		return -1
	}
	return int(at)
}

// sound is the chapter's sample of a channel at a place: at the phase 0 one alone has a tap that isn't 0.
func sound(m api.Meta, at int64, ask func(at int) int) int {
	n, q := at>>32, int(at%(1<<32)*32>>32)
	var x [4]int
	for i := range x {
		if q == 0 && i != 1 {
			continue
		}
		if at := lies(m, n-1+int64(i)); at >= 0 {
			x[i] = ask(at)
		}
	}
	return blend(x, q)
}

// model tells what a voice does in another way: it has a fetch of its own, to which the same is done, and its cursors.
type model struct {
	v       *voice.Voice
	own     *fetch.Fetch // the voice's
	twin    *fetch.Fetch
	cursors []*cursor.Cursor
	meta    api.Meta
	place   int64
	pitch   int64
}

// newModel is a voice, and its model, of a sample of an image, or of another one that the disk has.
func newModel(t *testing.T, image, onDisk []byte, slots, retry, sample int) *model {
	t.Helper()
	m := &model{own: fetchOf(t, image, onDisk, slots, retry), twin: fetchOf(t, image, onDisk, slots, retry), pitch: 1 << 32}
	m.v = open(t, m.own, sample)
	m.meta, _ = m.twin.Bank().Meta(sample)
	for channel := range m.meta.Channels {
		c, e := cursor.New(m.twin, sample, channel)
		if e != api.OK {
			t.Fatal(e)
		}
		m.cursors = append(m.cursors, c)
	}
	m.alike(t)
	return m
}

// both does something to both fetches.
func (m *model) both(do func(f *fetch.Fetch)) {
	do(m.own)
	do(m.twin)
}

// done tells whether the voice must have come to its end.
func (m *model) done() bool {
	return !m.meta.Loop && m.place >= int64(m.meta.Length)<<32
}

// frames is how many must have been fetched.
func (m *model) frames() int {
	n := 0
	for _, c := range m.cursors {
		n += c.Frames()
	}
	return n
}

// want is what the next sample must be.
func (m *model) want() api.Stereo {
	if m.done() {
		return api.Stereo{}
	}
	var l []int
	for _, c := range m.cursors {
		l = append(l, sound(m.meta, m.place, c.At))
	}
	m.place += m.pitch
	return api.Stereo{L: l[0], R: l[len(l)-1]}
}

// next asks for the next sample.
func (m *model) next(t *testing.T) api.Stereo {
	t.Helper()
	place := m.place
	want := m.want()
	if got := m.v.Next(); got != want {
		t.Fatalf("at %d and %d of 2^32 of %+v: %d; want %d", place>>32, place%(1<<32), m.meta, got, want)
	}
	m.alike(t)
	return want
}

// seek brings it to a place, or nowhere.
func (m *model) seek(t *testing.T, at int) {
	t.Helper()
	want := api.ErrRange
	if 0 <= at && at < m.meta.Length {
		want, m.place = api.OK, int64(at)<<32
	}
	if e := m.v.Seek(at); e != want {
		t.Fatalf("Seek(%d): %v; want %v", at, e, want)
	}
	m.alike(t)
}

// tune sets its pitch, if that may be.
func (m *model) tune(t *testing.T, pitch int64) {
	t.Helper()
	want := api.ErrRange
	if 0 <= pitch && pitch <= 8<<32 {
		want, m.pitch = api.OK, pitch
	}
	if e := m.v.Tune(pitch); e != want {
		t.Fatalf("Tune(%d): %v; want %v", pitch, e, want)
	}
	m.alike(t)
}

// lost asks which frames were lost, twice: then there are none.
func (m *model) lost(t *testing.T, id int) []api.Loss {
	t.Helper()
	var want []api.Loss
	for channel, c := range m.cursors {
		for _, block := range c.Missing() {
			want = append(want, api.Loss{Voice: id, Channel: channel, Block: block})
		}
	}
	if got := m.v.Lost(id); !slices.Equal(got, want) {
		t.Fatalf("lost are %+v; want %+v", got, want)
	}
	if got := m.v.Lost(id); len(got) != 0 {
		t.Fatalf("lost are %+v once more", got)
	}
	m.alike(t)
	return want
}

// alike holds what a voice tells, and what it did to its fetch, against the model.
func (m *model) alike(t *testing.T) {
	t.Helper()
	if m.v.Place() != m.place || m.v.Pitch() != m.pitch || m.v.Done() != m.done() || m.v.Meta() != m.meta {
		t.Fatalf("%d, %d, %t, %+v; want %d, %d, %t, %+v", m.v.Place(), m.v.Pitch(), m.v.Done(), m.v.Meta(), m.place, m.pitch, m.done(), m.meta)
	}
	if m.v.Frames() != m.frames() {
		t.Fatalf("%d frames; want %d", m.v.Frames(), m.frames())
	}
	if m.own.Frames() != m.twin.Frames() || m.own.Missed() != m.twin.Missed() || m.own.Told() != m.twin.Told() || m.own.Disk().Reads() != m.twin.Disk().Reads() {
		t.Fatalf("%d, %d, %+v; want %d, %d, %+v", m.own.Frames(), m.own.Missed(), m.own.Told(), m.twin.Frames(), m.twin.Missed(), m.twin.Told())
	}
}

// The chapter's example: four samples at the phase 16.
func TestExample(t *testing.T) {
	if v := voice.Blend([4]int{0, 100, 200, 300}, 16); v != 150 {
		t.Fatal(v)
	}
}

// Promise 21.1: of each sample there is a voice, at its beginning, as it was; it has asked for nothing.
func TestNew(t *testing.T) {
	r := chance(1)
	for _, l := range [][]api.Sample{r.list(6, 90), r.list(64, 3)} {
		image := pack(t, 40, l...)
		f := fetchOf(t, image, image, 3, 0)
		for i := range l {
			m, e := f.Bank().Meta(i)
			v := open(t, f, i)
			if e != api.OK || v.Meta() != m || v.Place() != 0 || v.Pitch() != 1<<32 || v.Done() || v.Frames() != 0 || len(v.Lost(3)) != 0 {
				t.Fatal(e, v.Meta(), v.Place(), v.Pitch(), v.Done(), v.Frames(), v.Lost(3))
			}
			s, e := f.Bank().Unpack(i)
			if m.First, m.Sums = 0, 0; e != api.OK || wave.Meta(s) != m {
				t.Fatal(e, m)
			}
		}
		if f.Frames() != 0 || f.Told() != (cache.Stats{}) || f.Disk().Reads() != 0 {
			t.Fatal(f.Frames(), f.Told(), f.Disk().Reads())
		}
	}
}

// Promise 21.1: a fetch without a bank is ErrArg, a sample that there is not Meta's error: the first of these.
func TestNewWrong(t *testing.T) {
	r := chance(2)
	image := pack(t, 24, r.list(3, 20)...)
	f := fetchOf(t, image, image, 1, 0)
	for _, i := range append(far(), 0, 1, 2, 3, 4, 63, 64, 256) {
		want := api.OK
		if i < 0 || i > 2 {
			want = api.ErrNone
		}
		if v, e := voice.New(f, i); e != want || (v == nil) != (want != api.OK) {
			t.Fatalf("New(f, %d): %v, %v; want %v", i, v, e, want)
		}
		for _, none := range []*fetch.Fetch{nil, {}, new(fetch.Fetch), {Cache: f.Cache}} {
			if v, e := voice.New(none, i); e != api.ErrArg || v != nil {
				t.Fatalf("New(%v, %d): %v, %v", none, i, v, e)
			}
		}
	}
	empty := pack(t, 24)
	if v, e := voice.New(fetchOf(t, empty, empty, 1, 0), 0); e != api.ErrNone || v != nil {
		t.Fatal(v, e)
	}
	if f.Frames() != 0 || f.Told() != (cache.Stats{}) {
		t.Fatal(f.Frames(), f.Told())
	}
}

// Promise 21.1: each place of a sample is sought, with noughts behind the point, also one behind the loop's end; others are not, and change nothing.
func TestSeek(t *testing.T) {
	r := chance(3)
	for n := 1; n <= 70; n++ {
		for _, s := range []api.Sample{ramp(1, n), round(ramp(2, n), n/3, n/3+1), round(ramp(1, n), 0, n)} {
			image := pack(t, 24, s)
			m := newModel(t, image, image, 2, 0, 0)
			for range 40 {
				m.tune(t, r.pitch())
				m.seek(t, r.below(n+4)-2)
				for range r.below(3) {
					m.next(t)
				}
			}
			for _, at := range append(far(), n, n+1, 1<<20-1) {
				m.tune(t, r.pitch())
				m.next(t)
				m.seek(t, at)
			}
			for at := range n {
				m.tune(t, 1<<31+1)
				m.next(t)
				m.seek(t, at)
				if m.v.Place() != int64(at)<<32 || m.v.Done() {
					t.Fatal(at, m.v.Place())
				}
			}
			m.tune(t, 0)
			if m.next(t); m.v.Place() != int64(n-1)<<32 {
				t.Fatal(m.v.Place())
			}
		}
	}
}

// Promise 21.1: of the longest sample each end is sought.
func TestSeekLongest(t *testing.T) {
	for _, s := range []api.Sample{mono(make([]int, 1<<20)), round(mono(make([]int, 1<<20)), 1<<20-1, 1<<20)} {
		image := pack(t, 24, s)
		m := newModel(t, image, image, 1, 0, 0)
		for _, at := range append(far(), 0, 1<<20-1, 1<<19, 1<<20-2, 1<<20+2) {
			m.seek(t, at)
			m.next(t)
		}
	}
}

// Promise 21.1: who has come to its end, and is brought to a place, is not done.
func TestSeekDone(t *testing.T) {
	image := pack(t, 60, ramp(2, 20))
	m := newModel(t, image, image, 2, 0, 0)
	for at := range 20 {
		m.tune(t, 8<<32)
		for !m.done() {
			m.next(t)
		}
		m.seek(t, 20)
		m.seek(t, -1)
		if !m.v.Done() {
			t.Fatal("a wrong place")
		}
		m.seek(t, at)
		if x := m.next(t); x != (api.Stereo{L: 100*at + 7, R: 100*at - 8993}) {
			t.Fatal(x)
		}
	}
}

// Promise 21.1: pitches up to the greatest one, and no others; these change nothing.
func TestTune(t *testing.T) {
	r := chance(4)
	image := pack(t, 24, r.sample("a", 2, 100))
	m := newModel(t, image, image, 2, 0, 0)
	for _, pitch := range []int64{0, 1, 2, 1<<27 - 1, 1 << 27, 1<<31 - 1, 1 << 31, 1<<32 - 1, 1 << 32, 1<<32 + 1, 1 << 33, 7 << 32, 1<<35 - 1, 1 << 35} {
		m.tune(t, pitch)
		if m.v.Pitch() != pitch {
			t.Fatal(pitch, m.v.Pitch())
		}
		m.seek(t, 3)
		m.next(t)
		for _, wrong := range []int64{math.MinInt64, math.MinInt64 + 1, -1 << 62, -8 << 32, -1 << 32, -1 << 31, -2, -1, 1<<35 + 1, 1<<35 + 2, 9 << 32, 16 << 32, 1 << 62, math.MaxInt64 - 1, math.MaxInt64} {
			m.tune(t, wrong)
		}
		if m.next(t); m.v.Place() != 3<<32+2*pitch {
			t.Fatal(pitch, m.v.Place())
		}
	}
}

// Promise 21.2: one that does not go round, of each length, at any pitches, from any place to its end, and behind it.
func TestNext(t *testing.T) {
	r := chance(5)
	for n := 1; n <= 100; n++ {
		for range 12 {
			s := r.sample("a", 1+r.below(2), n)
			s.Loop, s.LoopStart, s.LoopEnd = false, 0, 0
			image := pack(t, 24+r.below(73), s)
			m := newModel(t, image, image, 1+r.below(4), 0, 0)
			m.seek(t, r.below(n))
			m.tune(t, r.pitch())
			for range 60 {
				m.next(t)
				if r.below(9) == 0 {
					m.tune(t, r.pitch())
				}
			}
			m.tune(t, 1<<33+1<<30+12345)
			for !m.done() {
				m.next(t)
			}
			for range 3 {
				m.next(t)
			}
			if l := m.lost(t, 1); len(l) != 0 {
				t.Fatal(l)
			}
		}
	}
}

// Promise 21.2: one that goes round: each loop of a sample of up to nine places, and some of longer ones.
func TestNextRound(t *testing.T) {
	r := chance(6)
	for n := 1; n <= 9; n++ {
		for from := range n {
			for to := from + 1; to <= n; to++ {
				image := pack(t, 60, round(mono(r.samples(n)), from, to))
				m := newModel(t, image, image, 1, 0, 0)
				m.seek(t, r.below(n))
				for range 5 {
					m.tune(t, r.pitch())
					for range 3 * n {
						m.next(t)
					}
				}
			}
		}
	}
	for n := 10; n < 150; n += 3 {
		for range 10 {
			from := r.below(n)
			image := pack(t, 24+r.below(73), round(r.sample("a", 1+r.below(2), n), from, from+1+r.below(n-from)))
			m := newModel(t, image, image, 1+r.below(4), 0, 0)
			m.seek(t, r.below(n))
			for range 10 {
				m.tune(t, r.pitch())
				for range 20 {
					m.next(t)
				}
			}
			if l := m.lost(t, 1); len(l) != 0 {
				t.Fatal(l)
			}
		}
	}
}

// Promise 21.2: at each phase, and at its last place, of samples that are as they were: what the chapter says of the numbers that were packed.
func TestPhases(t *testing.T) {
	r := chance(7)
	for _, s := range []api.Sample{r.sample("a", 2, 20), round(r.sample("b", 1, 20), 3, 19), round(r.sample("c", 2, 20), 19, 20), round(r.sample("d", 2, 40), 0, 2)} {
		v, _ := alone(t, 60, s)
		data := s.Data
		if len(data) == 1 {
			data = append(data, data[0])
		}
		for at := range s.Data[0] {
			for part := range 65 {
				v.Seek(at)
				first := int64(part)<<26 - int64(part&1)
				v.Tune(min(first, 1<<32-1))
				v.Next()
				place := v.Place()
				want := api.Stereo{L: sound(v.Meta(), place, func(at int) int { return data[0][at] }), R: sound(v.Meta(), place, func(at int) int { return data[1][at] })}
				if got := v.Next(); got != want || place>>32 != int64(at) {
					t.Fatalf("%d and %d of 2^32: %d; want %d", at, place%(1<<32), got, want)
				}
			}
		}
	}
}

// Promise 21.2: by hand: between two samples, ahead of the first one and behind the last one, and at the loop's seam.
func TestNextByHand(t *testing.T) {
	l := []int{1600, 3200, -1600, 0, 16000}
	at := func(v *voice.Voice, at int, part int64) int {
		v.Seek(at)
		v.Tune(part)
		v.Next()
		return v.Next().R
	}
	v, _ := alone(t, 60, mono(l))
	// The taps of the phase 16 are -4096, 36864, 36864, -4096: a sixteenth, nine, nine, and one.
	for _, x := range []struct{ at, want int }{
		{0, 9*100 + 9*200 + 100},
		{1, -100 + 9*200 - 9*100},
		{2, -200 - 9*100 - 1000},
		{3, 100 + 9*1000},
		{4, 9 * 1000},
	} {
		if got := at(v, x.at, 1<<31); got != x.want {
			t.Fatal(x, got)
		}
	}
	v, _ = alone(t, 60, round(mono(l), 1, 4)) // 1600, 3200, -1600, 0, 3200, -1600, 0, ..
	for _, x := range []struct{ at, want int }{
		{0, 9*100 + 9*200 + 100},
		{1, -100 + 9*200 - 9*100},
		{2, -200 - 9*100 - 200},
		{3, 100 + 9*200 + 100},
		{4, 9*200 - 9*100}, // here 1 lies, between 3 and 2
	} {
		if got := at(v, x.at, 1<<31); got != x.want {
			t.Fatal(x, got)
		}
	}
	v, _ = alone(t, 60, round(mono(l), 4, 5))
	if got := at(v, 3, 1<<31); got != 100+9*1000-1000 {
		t.Fatal(got)
	}
	if got := at(v, 4, 1<<31); got != 17*1000 {
		t.Fatal(got)
	}
}

// Promise 21.2: what the taps make of the loudest samples is held within the bounds of one.
func TestLoud(t *testing.T) {
	for _, sign := range []int{-1, 1} {
		l := make([]int, 64)
		for i := range l {
			l[i] = sign * 32767
			if i/2%2 == 0 {
				l[i] = -sign * 32768
			}
			l[i] = min(l[i], 32767)
		}
		image := pack(t, 60, mono(l))
		m := newModel(t, image, image, 2, 0, 0)
		m.tune(t, 1<<28)
		low, high := 0, 0
		for !m.done() {
			x := m.next(t)
			if x.L == -32768 {
				low++
			}
			if x.L == 32767 {
				high++
			}
		}
		if low < 100 || high < 100 {
			t.Fatal(low, high)
		}
	}
}

// Promise 21.2: of one channel both are alike; of two the first is to the left.
func TestChannels(t *testing.T) {
	v, _ := alone(t, 60, ramp(1, 40))
	w, _ := alone(t, 60, ramp(2, 40))
	for i := range 40 {
		if x := v.Next(); x != (api.Stereo{L: 100*i + 7, R: 100*i + 7}) {
			t.Fatal(x)
		}
		if x := w.Next(); x != (api.Stereo{L: 100*i + 7, R: 100*i - 8993}) {
			t.Fatal(x)
		}
	}
}

// Promise 21.2: one that does not go round is done when its place's whole part is its length, not ahead of it; then there is silence, and nothing goes on.
func TestDone(t *testing.T) {
	for _, n := range []int{1, 2, 15, 16, 17, 40} {
		image := pack(t, 24, ramp(1, n))
		for _, pitch := range []int64{1, 5 << 30, 1 << 32, 3 << 31, 1 << 35} {
			m := newModel(t, image, image, 2, 0, 0)
			m.seek(t, n-1)
			m.tune(t, 1<<32-1)
			m.next(t)
			if m.v.Done() || m.v.Place() != int64(n)<<32-1 {
				t.Fatal(n, m.v.Place())
			}
			m.tune(t, pitch)
			if m.next(t); !m.v.Done() {
				t.Fatal(n, pitch)
			}
			at, frames, told := m.v.Place(), m.v.Frames(), m.own.Told()
			m.own.Empty()
			m.twin.Empty()
			for range 50 {
				if x := m.next(t); x != (api.Stereo{}) {
					t.Fatal(x)
				}
				m.tune(t, pitch/2)
			}
			if m.v.Place() != at || m.v.Frames() != frames || m.own.Told() != told {
				t.Fatal(m.v.Place(), m.v.Frames(), m.own.Told())
			}
		}
	}
}

// Promise 21.2: of the pitch 0 a voice stays, and is never done; one that goes round is never done.
func TestNeverDone(t *testing.T) {
	v, _ := alone(t, 60, ramp(1, 3))
	v.Seek(2)
	v.Tune(0)
	for range 1000 {
		if x := v.Next(); x.L != 207 || v.Done() || v.Place() != 2<<32 {
			t.Fatal(x, v.Done(), v.Place())
		}
	}
	v, _ = alone(t, 60, round(ramp(1, 3), 2, 3))
	v.Tune(8 << 32)
	for i := range 100000 {
		if x := v.Next(); i > 0 && x.L != 207 || v.Done() || v.Place() != int64(i+1)<<35 {
			t.Fatal(x, v.Done(), v.Place())
		}
	}
}

// Promise 21.2: what has a tap of 0 is not asked for: at the phase 0, up to its last place, only where the place itself lies.
func TestOneTap(t *testing.T) {
	image := pack(t, 60, ramp(1, 64))
	for _, x := range []struct {
		at     int
		part   int64
		frames int
	}{
		{24, 0, 2}, // 1 and 2
		{15, 0, 2}, // 0 and 1
		{16, 0, 2}, // 0 and 1
		{8, 0, 2},  // 0 and 1
		{7, 0, 1},  // 0
		{7, 1<<27 - 1, 1},
		{7, 1 << 27, 2}, // 8 lies in 0, which meets 1
		{6, 1<<27 - 1, 1},
		{6, 1 << 27, 2},
		{5, 1 << 27, 1},    // 4, 5, 6 and 7
		{23, 1<<27 - 1, 2}, // 0 and 1
		{23, 1 << 27, 3},   // 0, 1 and 2
		{63, 0, 1},         // 3
		{63, 1<<32 - 1, 1},
		{56, 1 << 27, 2}, // 55 lies in 3, which meets 2
	} {
		f := fetchOf(t, image, image, 2, 0)
		v := open(t, f, 0)
		v.Seek(x.at)
		v.Tune(x.part)
		v.Next() // of the phase 0
		ahead := v.Frames()
		w := open(t, f, 0)
		w.Seek(x.at)
		w.Next()
		if w.Frames() != ahead {
			t.Fatal(ahead, w.Frames())
		}
		if v.Next(); v.Frames() != x.frames {
			t.Fatalf("%+v: %d frames", x, v.Frames())
		}
	}
}

// Promise 21.2: taps are asked for in order, of the first channel, then of the second one: it tells which blocks are lost ahead of others, and what stands in.
func TestOrder(t *testing.T) {
	s := round(ramp(2, 96), 10, 60)
	image := pack(t, 60, s)
	bad := without(t, without(t, image, 0, 0, 2, 3), 1, 1, 3, 4)
	m := newModel(t, image, bad, 8, 0, 0)
	m.seek(t, 58)
	m.tune(t, 1<<31)
	m.next(t) // 58: the blocks 3 and 4
	m.next(t) // 57, 58, 59, 10: the blocks 0 and 1, too
	if l := m.lost(t, 9); !slices.Equal(l, []api.Loss{{Voice: 9, Channel: 0, Block: 3}, {Voice: 9, Channel: 0, Block: 0}, {Voice: 9, Channel: 1, Block: 3}, {Voice: 9, Channel: 1, Block: 4}, {Voice: 9, Channel: 1, Block: 1}}) {
		t.Fatal(l)
	}
	if m.v.Frames() != 8 {
		t.Fatal(m.v.Frames())
	}
	for range 400 {
		m.next(t)
	}
	m.lost(t, 9)
}

// Promise 21.2: of one channel its samples are asked for once: with more than four blocks at a seam, twice would be more frames.
func TestOnce(t *testing.T) {
	s := round(ramp(1, 200), 16, 137)
	image := pack(t, 60, s)
	v := open(t, fetchOf(t, image, image, 8, 0), 0)
	v.Seek(135)
	v.Tune(1 << 31)
	v.Next()
	if v.Next(); v.Frames() != 5 { // 134 and 135 in 8 and 7, 136 in 8 and 9, 16 in 1 and 0
		t.Fatal(v.Frames())
	}
	v.Seek(135)
	v.Next()
	ahead := v.Frames()
	if v.Next(); v.Frames()-ahead > 3 {
		t.Fatal(ahead, v.Frames())
	}
}

// Promise 21.2: losses are those of the voice that asks, told once each; what nobody asked for stays.
func TestLost(t *testing.T) {
	image := pack(t, 24, ramp(2, 160))
	f := fetchOf(t, image, without(t, without(t, image, 0, 1, 4, 5, 9), 1, 1, 2, 8), 4, 0)
	for _, id := range []int{7, math.MinInt, -1, 0, 16, math.MaxInt} {
		v, w := open(t, f, 0), open(t, f, 0)
		tell := func(v *voice.Voice, want ...[2]int) {
			t.Helper()
			var l []api.Loss
			for _, x := range want {
				l = append(l, api.Loss{Voice: id, Channel: x[0], Block: x[1]})
			}
			if got := v.Lost(id); !slices.Equal(got, l) {
				t.Fatal(got, l)
			}
			if got := v.Lost(id); got != nil {
				t.Fatal(got)
			}
		}
		tell(v)
		for range 160 {
			v.Next()
		}
		w.Seek(150)
		w.Next()
		all := [][2]int{{0, 1}, {0, 4}, {0, 5}, {0, 9}, {1, 1}, {1, 2}, {1, 8}}
		tell(v, all...)
		tell(w, [2]int{0, 9}, [2]int{1, 8})
		v.Seek(0)
		for range 320 {
			if v.Next(); v.Done() {
				v.Seek(0)
			}
		}
		tell(w)
		// Those of the first channel come first, however often they were lost.
		tell(v, append(append(append([][2]int{}, all[:4]...), all...), all[4:]...)...)
		tell(v)
	}
}

// Promise 21.2: frames are those of all its cursors, and of no other voice; lost ones were fetched, too.
func TestFrames(t *testing.T) {
	image := pack(t, 24, ramp(2, 320))
	f := fetchOf(t, image, without(t, image, 1, 0, 1, 2, 3, 7, 19), 1024, 0)
	v, w := open(t, f, 0), open(t, f, 0)
	for n := 1; n <= 320; n++ {
		v.Next()
		if v.Frames() > 2*(n/16+3) {
			t.Fatal(n, v.Frames())
		}
	}
	w.Seek(20)
	w.Next()
	if v.Frames() != 40 || w.Frames() != 4 || f.Frames() != 44 || f.Missed() != 8 {
		t.Fatal(v.Frames(), w.Frames(), f.Frames(), f.Missed())
	}
}

// The document's G4: a sample decodes at most 16 frames; one at its own pitch, of n samples, n / 16 and three of each channel.
func TestBound(t *testing.T) {
	r := chance(8)
	for range 300 {
		n := 1 + r.below(400)
		s := r.sample("a", 2, n)
		image := pack(t, 24, s)
		v := open(t, fetchOf(t, image, image, 2, 0), 0)
		for range 60 {
			if r.below(3) == 0 {
				v.Seek(r.below(n))
			}
			v.Tune(r.pitch())
			ahead := v.Frames()
			if v.Next(); v.Frames()-ahead > 16 {
				t.Fatal(v.Frames() - ahead)
			}
		}
		v = open(t, fetchOf(t, image, image, 2, 0), 0)
		from := r.below(n)
		end := n
		if s.Loop {
			end = max(from, s.LoopEnd)
		}
		v.Seek(from)
		for i := from; i < end; i++ {
			if v.Next(); v.Frames() > 2*((i-from+1)/16+3) {
				t.Fatal(from, i, v.Frames())
			}
		}
	}
}

// Promise 21.3: at each phase samples of all sizes, and those at the bounds; of other phases 0.
func TestBlend(t *testing.T) {
	r := chance(9)
	corners := []int{-1 << 20, -32769, -32768, -1, 0, 1, 32767, 32768, 1 << 20}
	for q := range 32 {
		for row := range 9 * 9 * 9 * 9 {
			x := [4]int{corners[row%9], corners[row/9%9], corners[row/81%9], corners[row/729]}
			if got, want := voice.Blend(x, q), blend(x, q); got != want {
				t.Fatalf("Blend(%d, %d) = %d; want %d", x, q, got, want)
			}
		}
		for range 20000 {
			var x [4]int
			size := r.below(21)
			for i := range x {
				x[i] = r.below(2<<size+1) - 1<<size
			}
			if got, want := voice.Blend(x, q), blend(x, q); got != want {
				t.Fatalf("Blend(%d, %d) = %d; want %d", x, q, got, want)
			}
		}
	}
	for _, q := range append(far(), 32, 33, 63, 64) {
		for _, x := range [][4]int{{}, {1, 2, 3, 4}, {1 << 20, 1 << 20, 1 << 20, 1 << 20}, {math.MinInt, math.MaxInt, math.MinInt, math.MaxInt}} {
			if got := voice.Blend(x, q); got != 0 {
				t.Fatal(x, q, got)
			}
		}
	}
}

// Promise 21.3: by hand: one sample at the phase 0; four alike at each; halves upwards.
func TestBlendByHand(t *testing.T) {
	for _, x := range []struct {
		x    [4]int
		q    int
		want int
	}{
		{[4]int{1000, -5, 2000, 3000}, 0, -5},
		{[4]int{1 << 20, 40000, 1 << 20, 1 << 20}, 0, 32767},
		{[4]int{1 << 20, -40000, 1 << 20, 1 << 20}, 0, -32768},
		{[4]int{0, 8, 0, 0}, 16, 5},   // 4.5
		{[4]int{0, -8, 0, 0}, 16, -4}, // -4.5
		{[4]int{0, 7, 0, 0}, 16, 4},   // 3.9375
		{[4]int{8, 0, 0, 0}, 16, 0},   // -0.5
		{[4]int{-8, 0, 0, 0}, 16, 1},  // 0.5
		{[4]int{9, 0, 0, 0}, 16, -1},  // -0.5625
		{[4]int{0, 0, 0, 24}, 16, -1}, // -1.5
		{[4]int{0, 0, 8, 0}, 16, 5},   // 4.5
		{[4]int{1 << 16, 0, 0, 0}, 1, -961},
		{[4]int{0, 1 << 15, 0, 0}, 1, 32690}, // 65379 / 2
		{[4]int{0, 0, 1 << 15, 0}, 1, 575},   // 1149 / 2
		{[4]int{0, 0, 0, 1 << 16}, 1, -31},
	} {
		if got := voice.Blend(x.x, x.q); got != x.want {
			t.Fatal(x, got)
		}
	}
	for q := range 32 {
		for _, v := range []int{-32768, -7, 0, 1, 32767} {
			if got := voice.Blend([4]int{v, v, v, v}, q); got != v {
				t.Fatal(q, v, got)
			}
		}
	}
}

// Promise 21.3: the first and the last place of each phase, at any whole part.
func TestPhase(t *testing.T) {
	for _, whole := range []int64{0, 1, 2, 31, 32, 1<<20 - 1, 1 << 20, 1<<30 - 1, 1 << 30, 1<<31 - 1} {
		for q := range 32 {
			for _, part := range []int64{0, 1, 1 << 26, 1<<27 - 1} {
				if got := voice.Phase(whole<<32 + int64(q)<<27 + part); got != q {
					t.Fatal(whole, q, part, got)
				}
			}
		}
	}
}

// Promise 21.3: a phase and a blend end, at all arguments.
func TestAnyArguments(t *testing.T) {
	r := chance(10)
	for range 10000 {
		at := int64(r.next())
		voice.Phase(at)
		voice.Blend([4]int{int(at), int(r.next()), int(r.next()), int(-at)}, r.below(32))
	}
	for _, at := range far() {
		voice.Phase(int64(at))
		for _, to := range append(far(), 0, 1) {
			for _, place := range append(far(), 0, 1) {
				voice.Home(api.Meta{Loop: true, LoopStart: at, LoopEnd: to, Length: at}, int64(place))
			}
		}
	}
}

// home is a place brought home in another way: round by round.
func home(m api.Meta, at int64) int64 {
	for m.Loop && at>>32 >= int64(m.LoopEnd)+4+int64(m.LoopEnd-m.LoopStart) {
		at -= int64(m.LoopEnd-m.LoopStart) << 32
	}
	return at
}

// Promise 21.3: each place, with any part of one, of each loop of up to 12 samples; of one that does not go round the place itself.
func TestHome(t *testing.T) {
	for n := 1; n <= 12; n++ {
		for from := range n {
			for to := from + 1; to <= n; to++ {
				m := wave.Meta(round(mono(make([]int, n)), from, to))
				for whole := range int64(80) {
					for _, part := range []int64{0, 1, 1 << 31, 1<<32 - 1} {
						at := whole<<32 + part
						if got, want := voice.Home(m, at), home(m, at); got != want {
							t.Fatalf("Home(%+v, %d) = %d; want %d", m, at, got, want)
						}
					}
				}
			}
		}
		m := wave.Meta(mono(make([]int, n)))
		for _, at := range []int64{0, 1, 5 << 32, 20<<32 + 7, 1 << 62} {
			if got := voice.Home(m, at); got != at {
				t.Fatal(at, got)
			}
			if got := voice.Home(api.Meta{Length: n, LoopEnd: n}, at); got != at {
				t.Fatal(at, got)
			}
		}
	}
}

// Promise 21.3: by hand: not ahead of a whole round behind the loop's end and four, and never nearer than these.
func TestHomeByHand(t *testing.T) {
	m := api.Meta{Name: "a", Rate: 1, Channels: 1, Length: 200, Loop: true, LoopStart: 50, LoopEnd: 150}
	for _, x := range [][2]int64{{0, 0}, {49, 49}, {149, 149}, {150, 150}, {153, 153}, {154, 154}, {155, 155}, {199, 199}, {253, 253}, {254, 154}, {255, 155}, {353, 253}, {354, 154}, {1<<30 - 1, 223}, {1 << 30, 224}, {1 << 30 / 100 * 100, 200}} {
		for _, part := range []int64{0, 1, 1<<32 - 1} {
			if got := voice.Home(m, x[0]<<32+part); got != x[1]<<32+part {
				t.Fatal(x, got>>32, got%(1<<32))
			}
		}
	}
}

// Promise 21.3: of far places, and of all sizes of loops, by great whole numbers.
func TestHomeFar(t *testing.T) {
	r := chance(11)
	for range 20000 {
		n := 1 + r.below(1<<(1+r.below(20)))
		m := wave.Meta(round(mono(make([]int, 1)), r.below(n), 0))
		m.Length, m.LoopEnd = n, m.LoopStart+1+r.below(n-m.LoopStart)
		at := int64(r.next() >> (1 + r.below(40)))
		for _, at := range []int64{at % (1<<62 + 1), 1 << 62, 1<<62 - 1} {
			rounds := new(big.Int).Sub(big.NewInt(at>>32), big.NewInt(int64(m.LoopEnd+4)))
			rounds.Quo(rounds, big.NewInt(int64(m.LoopEnd-m.LoopStart)))
			if rounds.Sign() < 0 {
				rounds.SetInt64(0)
			}
			want := rounds.Mul(rounds, big.NewInt(int64(m.LoopEnd-m.LoopStart)))
			want.Sub(big.NewInt(at), want.Lsh(want, 32))
			if got := voice.Home(m, at); big.NewInt(got).Cmp(want) != 0 {
				t.Fatalf("Home(%+v, %d) = %d; want %d", m, at, got, want)
			}
		}
	}
}

// Promise 21.6: what is brought home has the same phase, and all that its taps take lies where it lay; it is as near as it may be.
func TestHomeAlike(t *testing.T) {
	r := chance(12)
	for range 20000 {
		n := 1 + r.below(1<<(1+r.below(20)))
		m := api.Meta{Name: "a", Rate: 1, Channels: 1, Length: n, Loop: true, LoopStart: r.below(n)}
		m.LoopEnd = m.LoopStart + 1 + r.below(n-m.LoopStart)
		at := int64(r.next()>>(1+r.below(34))) % (1<<62 + 1)
		back := voice.Home(m, at)
		if voice.Phase(at) != voice.Phase(back) || at%(1<<32) != back%(1<<32) || voice.Home(m, back) != back {
			t.Fatal(m, at, back)
		}
		for i := range int64(12) {
			if a, b := wave.Unroll(m, at>>32-1+i), wave.Unroll(m, back>>32-1+i); a != b {
				t.Fatal(m, at, back, a, b)
			}
		}
		if at != back && (back>>32 < int64(m.LoopEnd+4) || back>>32 >= int64(2*m.LoopEnd-m.LoopStart+4)) {
			t.Fatal(m, at, back)
		}
	}
}

// Promises 21.2 and 21.6: one that goes round and round is brought home when its place's whole part is 2^30, not ahead of it; and it plays on as if it were not.
func TestFar(t *testing.T) {
	if testing.Short() {
		t.Skip("it takes 2^27 samples to come so far")
	}
	for _, x := range []struct{ length, from, to, first int }{{5, 0, 1, 0}, {64, 2, 63, 7}, {20, 3, 10, 1}} {
		t.Run(strconv.Itoa(x.to), func(t *testing.T) {
			t.Parallel()
			s := round(ramp(1, x.length), x.from, x.to)
			v, _ := alone(t, 60, s)
			v.Seek(x.first)
			v.Tune(8 << 32)
			for range 1<<27 - 1 {
				v.Next()
			}
			at := int64(1<<30-8+x.first) << 32
			if v.Place() != at {
				t.Fatal(v.Place()>>32, at>>32)
			}
			// A step short of 2^30, and none; then the last of all steps that there are.
			if x.first == 0 {
				for _, pitch := range []int64{8<<32 - 1, 0} {
					v.Tune(pitch)
					v.Next()
					if at += pitch; v.Place() != at {
						t.Fatal(v.Place()>>32, at>>32)
					}
				}
				v.Tune(1)
			}
			v.Next()
			at += v.Pitch()
			if v.Place() != voice.Home(v.Meta(), at) || v.Place()>>32 > int64(3*x.length+4) || at>>32 < 1<<30 {
				t.Fatal(v.Place()>>32, at>>32)
			}
			// Whole rounds, so that some of them are left, and few enough to go back by one by one.
			at -= (at>>32 - 1000) / int64(x.to-x.from) * int64(x.to-x.from) << 32
			r := chance(13)
			for range 2000 {
				want := sound(v.Meta(), at, func(at int) int { return s.Data[0][at] })
				v.Tune(r.pitch())
				if got := v.Next(); got.L != want || got.R != want {
					t.Fatal(got, want)
				}
				at += v.Pitch()
			}
		})
	}
}

// Promise 21.5: at its own pitch, from each place on, the sample as it goes on for ever, whatever was played ahead.
func TestGoesOn(t *testing.T) {
	r := chance(14)
	for range 150 {
		size := 24 + r.below(73)
		l := r.list(3, 120)
		image := pack(t, size, l...)
		f := fetchOf(t, image, image, 1+r.below(9), 0)
		for i := range l {
			v := open(t, f, i)
			m := v.Meta()
			left, e := f.Bank().Whole(i, 0)
			right, g := f.Bank().Whole(i, m.Channels-1)
			if e != api.OK || g != api.OK {
				t.Fatal(e, g)
			}
			if size >= 55 && !slices.Equal(left, l[i].Data[0]) {
				t.Fatal("it is not as it was")
			}
			for range 12 {
				for range r.below(30) {
					v.Tune(r.pitch())
					v.Next()
				}
				from, n := r.below(m.Length), 1+r.below(300)
				v.Tune(api.One)
				v.Seek(from)
				a, b := wave.Unrolled(m, left, int64(from), n), wave.Unrolled(m, right, int64(from), n)
				for k := range n {
					if got := v.Next(); got != (api.Stereo{L: a[k], R: b[k]}) {
						t.Fatalf("%+v: %d behind %d: %d; want %d, %d", m, k, from, got, a[k], b[k])
					}
				}
				if v.Done() != (!m.Loop && from+n >= m.Length) {
					t.Fatal(v.Done())
				}
			}
			if l := v.Lost(1); len(l) != 0 {
				t.Fatal(l)
			}
		}
	}
}

// Promise 21.5: of the longest sample, forth and round.
func TestLongest(t *testing.T) {
	r := chance(15)
	s := round(mono(r.samples(1<<20)), 5, 1<<20)
	v, f := alone(t, 24, s)
	whole, e := f.Bank().Whole(0, 0)
	if e != api.OK {
		t.Fatal(e)
	}
	want := wave.Unrolled(v.Meta(), whole, 0, 1<<20+4000)
	for i := range want {
		if x := v.Next(); x.L != want[i] {
			t.Fatal(i, x, want[i])
		}
	}
	s.Loop, s.LoopStart, s.LoopEnd = false, 0, 0
	v, _ = alone(t, 24, s)
	v.Seek(1<<20 - 500)
	for i := 1<<20 - 500; i < 1<<20+500; i++ {
		if x := v.Next(); i < 1<<20 && x.L != whole[i] || i >= 1<<20 && x.L != 0 || v.Done() != (i >= 1<<20-1) {
			t.Fatal(i, x)
		}
	}
}

// Promises 21.1 and 21.2: anything that may be done, in any order, with pages that fail, and bytes that are spoilt.
func TestAnything(t *testing.T) {
	r := chance(16)
	lost, done := 0, 0
	for range 600 {
		image := pack(t, 24+r.below(73), r.list(3, 300)...)
		m := newModel(t, image, image, 1+r.below(12), r.below(3), r.below(3))
		for range 150 {
			page := r.below(m.own.Disk().Pages())
			switch r.below(16) {
			case 0:
				fails := r.below(8) - 1
				m.both(func(f *fetch.Fetch) { f.Disk().Fail(page, fails) })
			case 1:
				at, xor := r.below(64), byte(r.below(256))
				m.both(func(f *fetch.Fetch) { f.Disk().Spoil(page, at, xor) })
			case 2:
				m.both(func(f *fetch.Fetch) { f.Disk().Heal(page) })
			case 3:
				m.both(func(f *fetch.Fetch) { f.Evict(page) })
			case 4:
				m.both(func(f *fetch.Fetch) { f.Empty() })
			case 5:
				lost += len(m.lost(t, r.below(40)-20))
			case 6:
				m.seek(t, r.below(m.meta.Length+4)-2)
			case 7:
				m.tune(t, r.pitch())
			case 8:
				m.tune(t, 1<<32)
			case 9:
				m.tune(t, int64(r.next()))
			default:
				for range r.below(20) {
					m.next(t)
				}
				if m.done() {
					done++
				}
			}
		}
		lost += len(m.lost(t, 0))
	}
	if lost < 1000 || done < 1000 {
		t.Fatal(lost, done)
	}
}

// Rule R4: what a voice plays hangs on no other voice of its fetch, nor on its cache.
func TestApart(t *testing.T) {
	r := chance(17)
	l := r.list(2, 200)
	l[0].Data = append(l[0].Data, r.samples(len(l[0].Data[0])))
	image := pack(t, 30, l...)
	bad := without(t, image, 1, 0)
	play := func(v *voice.Voice, i int) []int {
		v.Tune(int64(i) << 29)
		x := v.Next()
		return []int{x.L, x.R, int(v.Place())}
	}
	var want []int
	for _, slots := range []int{1, 2, 5, 1024} {
		f := fetchOf(t, image, bad, slots, slots%9)
		v, w, other := open(t, f, 0), open(t, f, 0), open(t, f, 1)
		var got []int
		for i := range 60 {
			got = append(got, play(v, i)...)
			w.Seek(i * 7 % w.Meta().Length)
			w.Tune(int64(60-i) << 28)
			w.Next()
			other.Next()
			if i%9 == 0 {
				f.Empty()
			}
		}
		for _, x := range v.Lost(5) {
			got = append(got, x.Voice, x.Channel, x.Block)
		}
		got = append(got, v.Frames())
		if want == nil {
			want = got
		}
		if !slices.Equal(got, want) {
			t.Fatal(slots, got, want)
		}
	}
}

// Rule R3: what was answered is its asker's: nothing that is done to it changes the voice.
func TestMemory(t *testing.T) {
	image := pack(t, 24, ramp(1, 100))
	v := open(t, fetchOf(t, image, without(t, image, 0, 0, 1, 2, 3), 4, 0), 0)
	v.Seek(24)
	v.Next()
	first := v.Lost(1)
	v.Seek(0)
	v.Seek(40)
	v.Next()
	second := v.Lost(1)
	first[0], second[0] = api.Loss{Voice: 9}, api.Loss{Voice: 8}
	first = append(first, api.Loss{})
	if v.Lost(1) != nil || len(second) != 1 || second[0] != (api.Loss{Voice: 8}) {
		t.Fatal(first, second)
	}
	m := v.Meta()
	m.Name, m.Length = "z", 1
	if w := v.Meta(); w.Name != "a" || w.Length != 100 {
		t.Fatal(w)
	}
}

// Promise 21.4: a nil voice, and one that New did not give: ErrState; done; zero values.
func TestNobodyMade(t *testing.T) {
	for _, v := range []*voice.Voice{nil, {}, new(voice.Voice)} {
		for range 2 {
			for _, n := range append(far(), 0, 1, 5) {
				if e := v.Seek(n); e != api.ErrState {
					t.Fatal(n, e)
				}
				if e := v.Tune(int64(n)); e != api.ErrState {
					t.Fatal(n, e)
				}
				if l := v.Lost(n); l != nil {
					t.Fatal(l)
				}
			}
			if v.Meta() != (api.Meta{}) || !v.Done() || v.Place() != 0 || v.Pitch() != 0 || v.Next() != (api.Stereo{}) || v.Frames() != 0 {
				t.Fatal(v.Meta(), v.Done(), v.Place(), v.Pitch(), v.Frames())
			}
		}
	}
}
