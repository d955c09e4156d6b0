package player_test

import (
	"bytes"
	"math"
	"reflect"
	"slices"
	"strconv"
	"strings"
	"testing"

	"calliope/api"
	"calliope/bank"
	"calliope/cache"
	"calliope/disk"
	"calliope/env"
	"calliope/fetch"
	"calliope/player"
	"calliope/voice"
	"calliope/wave"
)

// chance is a row of numbers that look like chance, and are the same in each run.
type chance uint64

func (c *chance) next() uint64 {
	*c = *c*6364136223846793005 + 1442695040888963407
	x := uint64(*c)
	return x ^ x>>29
}

func (c *chance) below(n int) int {
	return int(c.next() >> 33 % uint64(n))
}

// pitch is any that may be, often one of those that are whole, or near the bounds.
func (c *chance) pitch() int64 {
	switch c.below(5) {
	case 0:
		return int64(c.below(9)) << 32
	case 1:
		return int64(c.below(65)) << 29
	case 2:
		return 1 << 32
	case 3:
		return int64(c.next() >> 31) // up to twice as fast
	}
	return int64(c.next() % (api.MaxPitch + 1))
}

// shape is any of up to so many samples a stage, often of none.
func (c *chance) shape(most int) env.Shape {
	time := func() int { return c.below(2) * c.below(most+1) }
	return env.Shape{Attack: time(), Decay: time(), Sustain: c.below(257), Release: time()}
}

// samples are so many, louder and quieter in turn, each eight of them.
func (c *chance) samples(length int) []int {
	l := make([]int, length)
	quiet := 0
	for i := range l {
		if i%8 == 0 {
			quiet = c.below(12)
		}
		l[i] = (c.below(1<<16) - 1<<15) >> quiet
	}
	return l
}

// list are so many samples of one or two channels in turn, of at most so many samples each, that go round as it comes.
func (c *chance) list(n, most int) []api.Sample {
	var l []api.Sample
	for i := range n {
		s := api.Sample{Name: "s" + strconv.Itoa(i), Rate: 8000}
		length := 1 + c.below(most)
		for range 1 + i%2 {
			s.Data = append(s.Data, c.samples(length))
		}
		if c.below(2) == 0 {
			s = round(s, c.below(length), 0)
			s.LoopEnd = s.LoopStart + 1 + c.below(length-s.LoopStart)
		}
		l = append(l, s)
	}
	return l
}

// flat is a sample of which each number is the same one.
func flat(name string, length, v int) api.Sample {
	return api.Sample{Name: name, Rate: 8000, Data: [][]int{slices.Repeat([]int{v}, length)}}
}

// ramp is a sample of so many channels, of which each number is another one.
func ramp(name string, channels, length int) api.Sample {
	s := api.Sample{Name: name, Rate: 8000}
	for channel := range channels {
		l := make([]int, length)
		for i := range l {
			l[i] = 100*i + 7 - 9000*channel
		}
		s.Data = append(s.Data, l)
	}
	return s
}

// round is a sample that goes round.
func round(s api.Sample, from, to int) api.Sample {
	s.Loop, s.LoopStart, s.LoopEnd = true, from, to
	return s
}

// far are numbers of voices, places, volumes and lengths that there are not.
func far() []int {
	return []int{math.MinInt, math.MinInt + 1, -1 << 62, -1 << 40, -1 << 32, -1 << 31, -256, -16, -2, -1, 1 << 20, 1<<20 + 1, 1 << 31, 1 << 32, 1<<32 + 1, 1 << 40, 1 << 60, 1 << 62, math.MaxInt - 1, math.MaxInt}
}

// pack is the image of samples.
func pack(t *testing.T, size int, l ...api.Sample) []byte {
	t.Helper()
	b, e := bank.Pack(size, l...)
	if e != api.OK {
		t.Fatal(e)
	}
	return b
}

// fetchOf is a fetch of an image's frames through a cache whose disk has that image, or another one.
func fetchOf(t *testing.T, image, onDisk []byte, slots, retry int) *fetch.Fetch {
	t.Helper()
	x, e := bank.Parse(image)
	d, g := disk.New(onDisk)
	c, h := cache.New(d, slots, retry)
	f, i := fetch.New(x, c)
	if e != api.OK || g != api.OK || h != api.OK || i != api.OK {
		t.Fatal(e, g, h, i)
	}
	return f
}

// open is a player that there must be.
func open(t *testing.T, f *fetch.Fetch, voices int) *player.Player {
	t.Helper()
	p, e := player.New(f, voices)
	if e != api.OK || p == nil {
		t.Fatal(p, e)
	}
	return p
}

// table is a player of so many voices of samples of which nothing is lost.
func table(t *testing.T, voices int, l ...api.Sample) *player.Player {
	t.Helper()
	image := pack(t, 60, l...)
	return open(t, fetchOf(t, image, image, 8, 0), voices)
}

// start plays a sample that there must be: the voice that it has.
func start(t *testing.T, p *player.Player, name string, s env.Shape) int {
	t.Helper()
	i, e := p.Start(name, s)
	if e != api.OK {
		t.Fatalf("Start(%q, %v): %v", name, s, e)
	}
	return i
}

// render is what is told of so many samples.
func render(t *testing.T, p *player.Player, n int) api.Report {
	t.Helper()
	r, e := p.Render(n)
	if e != api.OK || len(r.Out) != n {
		t.Fatalf("Render(%d): %d samples, %v", n, len(r.Out), e)
	}
	return r
}

// must is for calls that may not be refused.
func must(t *testing.T, l ...api.Errno) {
	t.Helper()
	for i, e := range l {
		if e != api.OK {
			t.Fatalf("%d: %v", i, e)
		}
	}
}

// without is a disk's image of which these blocks of a channel of a sample are lost.
func without(t *testing.T, image []byte, sample, channel int, blocks ...int) []byte {
	t.Helper()
	x, e := bank.Parse(image)
	other := bytes.Clone(image)
	for _, block := range blocks {
		at, _, g := x.Where(sample, channel, block)
		if e != api.OK || g != api.OK {
			t.Fatal(e, g)
		}
		other[at] ^= 1
	}
	return other
}

// same tells whether two reports are alike; nil and the empty list are.
func same(a, b api.Report) bool {
	return slices.Equal(a.Out, b.Out) && slices.Equal(a.Lost, b.Lost) && slices.Equal(a.Ended, b.Ended) && a.Frames == b.Frames && a.Reads == b.Reads
}

// heard is a sample to one side, divided by hand: towards 0, then up or down by what was left.
func heard(x, side, loud int) int {
	n := x * side * loud
	q, rest := n/65536, n%65536
	if rest >= 32768 {
		q++
	}
	if rest < -32768 {
		q--
	}
	return q
}

// bounded is a sum within the bounds of a sample.
func bounded(sum int) int {
	return min(max(sum, -32768), 32767)
}

// part is a voice of the model.
type part struct {
	*voice.Voice
	shape       *env.Env
	left, right int
}

// model tells what a player does in another way: it has a fetch of its own, to which the same is done, and plain voices of it; and it has a queue of those that play.
type model struct {
	p      *player.Player
	own    *fetch.Fetch // the player's
	twin   *fetch.Fetch
	voices map[int]*part
	queue  []int // those that play, the one that was started first first
	most   int
}

// newModel is a player, and its model, of an image, or of another one that the disk has.
func newModel(t *testing.T, image, onDisk []byte, slots, retry, voices int) *model {
	t.Helper()
	m := &model{own: fetchOf(t, image, onDisk, slots, retry), twin: fetchOf(t, image, onDisk, slots, retry), voices: map[int]*part{}, most: voices}
	m.p = open(t, m.own, voices)
	m.alike(t)
	return m
}

// both does something to both fetches.
func (m *model) both(do func(f *fetch.Fetch)) {
	do(m.own)
	do(m.twin)
}

// live are the voices that must play.
func (m *model) live() []int {
	return slices.Sorted(slices.Values(m.queue))
}

// alike holds what a player tells, and what it did to its fetch, against the model.
func (m *model) alike(t *testing.T) {
	t.Helper()
	if m.p.Voices() != m.most || !slices.Equal(m.p.Live(), m.live()) {
		t.Fatalf("%d voices, and %d play; want %d, %d", m.p.Voices(), m.p.Live(), m.most, m.live())
	}
	for i := -1; i <= m.most; i++ {
		place, want := int64(0), m.refusal(i)
		if want == api.OK {
			place = m.voices[i].Place()
		}
		if at, e := m.p.Place(i); at != place || e != want {
			t.Fatalf("Place(%d): %d, %v; want %d, %v", i, at, e, place, want)
		}
	}
	if m.own.Frames() != m.twin.Frames() || m.own.Missed() != m.twin.Missed() || m.own.Told() != m.twin.Told() || m.own.Disk().Reads() != m.twin.Disk().Reads() {
		t.Fatalf("%d, %d, %+v; want %d, %d, %+v", m.own.Frames(), m.own.Missed(), m.own.Told(), m.twin.Frames(), m.twin.Missed(), m.twin.Told())
	}
}

// refusal is why there is no voice i that plays.
func (m *model) refusal(i int) api.Errno {
	if i < 0 || i >= m.most {
		return api.ErrVoice
	}
	if m.voices[i] == nil {
		return api.ErrNone
	}
	return api.OK
}

// free lets a voice be free.
func (m *model) free(i int) {
	delete(m.voices, i)
	m.queue = slices.DeleteFunc(m.queue, func(j int) bool { return i == j })
}

// taken is the voice that is taken.
func (m *model) taken() int {
	for i := range m.most {
		if m.voices[i] == nil {
			return i
		}
	}
	return m.queue[0]
}

// start plays a sample, if that may be.
func (m *model) start(t *testing.T, name string, s env.Shape) {
	t.Helper()
	number, want := 0, api.OK
	sample, ok := m.twin.Bank().Find(name)
	if !ok {
		want = api.ErrNone
	} else if !env.Right(s) {
		want = api.ErrArg
	} else {
		number = m.taken()
		v, e := voice.New(m.twin, sample)
		shape, g := env.New(s)
		must(t, e, g)
		m.free(number)
		m.voices[number] = &part{Voice: v, shape: shape, left: 256, right: 256}
		m.queue = append(m.queue, number)
	}
	if i, e := m.p.Start(name, s); i != number || e != want {
		t.Fatalf("Start(%q, %v): %d, %v; want %d, %v", name, s, i, e, number, want)
	}
	m.alike(t)
}

// tell does something to a voice, and to the model's one, if it plays; which tells why not.
func (m *model) tell(t *testing.T, i int, do func(p *player.Player) api.Errno, to func(v *part) api.Errno) {
	t.Helper()
	want := m.refusal(i)
	if want == api.OK {
		want = to(m.voices[i])
	}
	if e := do(m.p); e != want {
		t.Fatalf("to the voice %d: %v; want %v", i, e, want)
	}
	m.alike(t)
}

func (m *model) stop(t *testing.T, i int) {
	t.Helper()
	m.tell(t, i, func(p *player.Player) api.Errno { return p.Stop(i) }, func(*part) api.Errno {
		m.free(i)
		return api.OK
	})
}

func (m *model) quiet(t *testing.T) {
	t.Helper()
	m.p.Quiet()
	m.voices, m.queue = map[int]*part{}, nil
	m.alike(t)
}

func (m *model) release(t *testing.T, i int) {
	t.Helper()
	m.tell(t, i, func(p *player.Player) api.Errno { return p.Release(i) }, func(v *part) api.Errno {
		v.shape.Release()
		return api.OK
	})
}

func (m *model) seek(t *testing.T, i, at int) {
	t.Helper()
	m.tell(t, i, func(p *player.Player) api.Errno { return p.Seek(i, at) }, func(v *part) api.Errno { return v.Seek(at) })
}

func (m *model) pitch(t *testing.T, i int, pitch int64) {
	t.Helper()
	m.tell(t, i, func(p *player.Player) api.Errno { return p.Pitch(i, pitch) }, func(v *part) api.Errno { return v.Tune(pitch) })
}

func (m *model) volume(t *testing.T, i, left, right int) {
	t.Helper()
	m.tell(t, i, func(p *player.Player) api.Errno { return p.Volume(i, left, right) }, func(v *part) api.Errno {
		if min(left, right) < 0 || max(left, right) > 256 {
			return api.ErrRange
		}
		v.left, v.right = left, right
		return api.OK
	})
}

// want is what the rendering of so many samples must tell.
func (m *model) want(n int) api.Report {
	var r api.Report
	frames, reads := m.twin.Frames(), m.twin.Disk().Reads()
	for range n {
		var sum api.Stereo
		var over []int
		for _, i := range m.live() {
			v := m.voices[i]
			loud := v.shape.Next()
			x := v.Next()
			sum.L += heard(x.L, v.left, loud)
			sum.R += heard(x.R, v.right, loud)
			r.Lost = append(r.Lost, v.Lost(i)...)
			if v.Done() || v.shape.Stage() == env.Over {
				over = append(over, i)
			}
		}
		for _, i := range over {
			m.free(i)
		}
		r.Ended = append(r.Ended, over...)
		r.Out = append(r.Out, api.Stereo{L: bounded(sum.L), R: bounded(sum.R)})
	}
	r.Frames, r.Reads = m.twin.Frames()-frames, m.twin.Disk().Reads()-reads
	return r
}

// render asks for so many samples, or for too many.
func (m *model) render(t *testing.T, n int) api.Report {
	t.Helper()
	var want api.Report
	refused := n < 0 || n > 256
	if !refused {
		want = m.want(n)
	}
	got, e := m.p.Render(n)
	if (e == api.ErrRange) != refused || (e == api.OK) == refused || !same(got, want) {
		t.Fatalf("Render(%d): %v, %+v; want %+v", n, e, got, want)
	}
	m.alike(t)
	return want
}

// The chapter's example: two voices that play one sample as it is: twice as loud.
func TestExample(t *testing.T) {
	p := table(t, 2, ramp("a", 2, 60))
	start(t, p, "a", env.Plain())
	start(t, p, "a", env.Plain())
	for i, x := range render(t, p, 60).Out {
		if x != (api.Stereo{L: 2 * (100*i + 7), R: 2 * (100*i - 8993)}) {
			t.Fatal(i, x)
		}
	}
}

// Promise 23.1: of 1 to 16 voices there is a player; all are free, nothing was asked for, and it is silent.
func TestNew(t *testing.T) {
	image := pack(t, 24, ramp("a", 1, 40))
	for n := 1; n <= 16; n++ {
		f := fetchOf(t, image, image, 2, 0)
		p := open(t, f, n)
		if p.Voices() != n || len(p.Live()) != 0 {
			t.Fatal(n, p.Voices(), p.Live())
		}
		r := render(t, p, 200)
		if !same(r, api.Report{Out: make([]api.Stereo, 200)}) || f.Frames() != 0 || f.Told() != (cache.Stats{}) || f.Disk().Reads() != 0 {
			t.Fatal(n, r, f.Frames(), f.Told())
		}
		for i := range n {
			if got := start(t, p, "a", env.Plain()); got != i || len(p.Live()) != i+1 || p.Live()[i] != i || p.Voices() != n {
				t.Fatal(n, i, got, p.Live())
			}
		}
		if f.Frames() != 0 || f.Disk().Reads() != 0 {
			t.Fatal("a start asks for frames")
		}
	}
}

// Promise 23.1: a fetch without a bank, and other numbers of voices, are ErrArg; a bank without samples may be.
func TestNewWrong(t *testing.T) {
	image := pack(t, 24, ramp("a", 1, 40))
	f := fetchOf(t, image, image, 2, 0)
	for _, n := range append(far(), 0, 1, 2, 16, 17, 18, 256) {
		want := api.ErrArg
		if 1 <= n && n <= 16 {
			want = api.OK
		}
		if p, e := player.New(f, n); e != want || (p == nil) != (want != api.OK) {
			t.Fatalf("New(f, %d): %v, %v; want %v", n, p, e, want)
		}
		for _, none := range []*fetch.Fetch{nil, {}, new(fetch.Fetch), {Cache: f.Cache}} {
			if p, e := player.New(none, n); e != api.ErrArg || p != nil {
				t.Fatalf("New(%v, %d): %v, %v", none, n, p, e)
			}
		}
	}
	empty := pack(t, 24)
	p := open(t, fetchOf(t, empty, empty, 1, 0), 1)
	if i, e := p.Start("a", env.Plain()); i != 0 || e != api.ErrNone || len(p.Live()) != 0 {
		t.Fatal(i, e)
	}
}

// Promise 23.1: each sample is found by its name, and played from its beginning, as it is, as loud as can be.
func TestStart(t *testing.T) {
	r := chance(1)
	l := r.list(64, 90)
	image := pack(t, 96, l...)
	for _, voices := range []int{1, 3, 16} {
		p := open(t, fetchOf(t, image, image, 8, 0), voices)
		for _, s := range l {
			p.Quiet()
			// What the voice played ahead of it is not to be heard.
			start(t, p, l[r.below(64)].Name, env.Shape{Attack: 9, Sustain: 9})
			p.Volume(0, 3, 4)
			p.Pitch(0, 5)
			p.Seek(0, 0)
			render(t, p, 2)
			p.Quiet()
			if i := start(t, p, s.Name, env.Plain()); i != 0 {
				t.Fatal(i)
			}
			if at, e := p.Place(0); at != 0 || e != api.OK {
				t.Fatal(at, e)
			}
			n := len(s.Data[0])
			for i, x := range render(t, p, n).Out {
				at := wave.Unroll(wave.Meta(s), int64(i))
				if x != (api.Stereo{L: s.Data[0][at], R: s.Data[len(s.Data)-1][at]}) {
					t.Fatal(s.Name, i, x)
				}
			}
			if len(p.Live()) == 1 != s.Loop {
				t.Fatal(s.Name, p.Live())
			}
		}
	}
}

// wrongShapes are shapes that may not be.
func wrongShapes() []env.Shape {
	var l []env.Shape
	for _, n := range []int{-1, 1<<20 + 1, math.MinInt, math.MaxInt} {
		l = append(l, env.Shape{Attack: n}, env.Shape{Decay: n}, env.Shape{Sustain: n}, env.Shape{Release: n})
	}
	return append(l, env.Shape{Sustain: 257})
}

// Promise 23.1: no such sample is ErrNone, whatever the shape; else a shape that may not be is ErrArg. Then nothing has changed, also if all voices play.
func TestStartWrong(t *testing.T) {
	image := pack(t, 24, ramp("a", 1, 300), ramp("ab", 1, 300))
	for _, voices := range []int{1, 2, 3, 16} {
		m := newModel(t, image, image, 4, 0, voices)
		for n := range voices + 3 {
			for _, name := range []string{"", "b", "A", "aa", "abc", "a ", " a", "a\x00", "\xff", strings.Repeat("a", 33), strings.Repeat("ab", 1<<16)} {
				for _, s := range append(wrongShapes(), env.Plain()) {
					m.start(t, name, s)
				}
			}
			for _, s := range wrongShapes() {
				m.start(t, "a", s)
				m.start(t, "ab", s)
			}
			m.render(t, 3)
			m.start(t, "ab", env.Plain())
			m.seek(t, n%voices, n)
			m.render(t, 1+n)
		}
	}
}

// Promise 23.1: the longest times, and each loudness at its bounds, may be.
func TestStartShapes(t *testing.T) {
	image := pack(t, 24, round(ramp("a", 1, 30), 2, 20))
	m := newModel(t, image, image, 4, 0, 16)
	for i := range 16 {
		const most = 1 << 20
		m.start(t, "a", env.Shape{Attack: i & 1 * most, Decay: i >> 1 & 1 * most, Sustain: i >> 2 & 1 * 256, Release: i >> 3 & 1 * most})
	}
	for range 16 {
		m.render(t, 200)
	}
	for i := range 16 {
		m.release(t, i)
	}
	m.render(t, 100)
}

// Promise 23.1, by hand: the first that is free is taken, else the one that was started first; not the next one in turn.
func TestTakenByHand(t *testing.T) {
	p := table(t, 3, round(ramp("a", 1, 40), 0, 40), ramp("b", 1, 1))
	next := func(want int) {
		t.Helper()
		if i := start(t, p, "a", env.Plain()); i != want {
			t.Fatal(i, want)
		}
	}
	for _, want := range []int{0, 1, 2, 0, 1} {
		next(want)
	}
	must(t, p.Stop(0))
	next(0) // 2, 1, 0 were started in this order
	next(2)
	must(t, p.Stop(1), p.Stop(0))
	next(0)
	next(1)
	next(2) // 2, 0, 1
	next(0)
	must(t, p.Seek(1, 3), p.Pitch(1, 7), p.Volume(1, 7, 8), p.Release(1)) // that starts nothing
	next(1)
	if i := start(t, p, "b", env.Plain()); i != 2 {
		t.Fatal(i)
	}
	render(t, p, 1)
	next(2) // it has ended; 0, 1 and 2 now
	next(0)
	p.Quiet()
	next(0)
	next(1)
	next(2)
	next(0)
}

// Promise 23.1: which voice is taken, whatever was stopped, let go and ended ahead.
func TestTaken(t *testing.T) {
	r := chance(2)
	l := r.list(4, 30)
	image := pack(t, 24, l...)
	for range 200 {
		m := newModel(t, image, image, 8, 0, 1+r.below(16))
		for range 120 {
			switch r.below(12) {
			case 0, 1:
				m.stop(t, r.below(m.most))
			case 2:
				m.release(t, r.below(m.most))
			case 3:
				m.render(t, r.below(6))
			case 4:
				if r.below(9) == 0 {
					m.quiet(t)
				}
			default:
				m.start(t, l[r.below(4)].Name, r.shape(4))
			}
		}
	}
}

// Promise 23.1: a voice that is taken has not ended, and what it played is not heard any more.
func TestTakenPlays(t *testing.T) {
	p := table(t, 1, flat("a", 400, 1000), flat("b", 400, 50))
	start(t, p, "a", env.Plain())
	render(t, p, 3)
	start(t, p, "b", env.Plain())
	r := render(t, p, 5)
	if len(r.Ended) != 0 || r.Out[0].L != 50 || r.Out[4].R != 50 {
		t.Fatal(r)
	}
}

// calls are all that may be asked of a voice i, rightly first, then wrongly: what each answers.
func calls(p *player.Player, i int) []api.Errno {
	_, e := p.Place(i)
	return []api.Errno{
		e, p.Seek(i, 0), p.Pitch(i, 1<<32), p.Volume(i, 1, 2), p.Release(i), p.Stop(i),
		p.Seek(i, -1), p.Seek(i, math.MaxInt), p.Pitch(i, -1), p.Pitch(i, math.MaxInt64), p.Volume(i, -1, 0), p.Volume(i, 0, 257), p.Volume(i, math.MaxInt, math.MinInt),
	}
}

// Promise 23.2: of a voice that there is not all is ErrVoice, of a free one ErrNone, ahead of what else is wrong; and nothing has changed.
func TestNoVoice(t *testing.T) {
	image := pack(t, 24, ramp("a", 1, 300))
	for n := 1; n <= 16; n++ {
		m := newModel(t, image, image, 3, 0, n)
		for k := range 3 {
			for _, i := range append(far(), n, n+1, 16, 17) {
				for call, e := range calls(m.p, i) {
					if e != api.ErrVoice {
						t.Fatalf("%d voices, of the voice %d: %d: %v", n, i, call, e)
					}
				}
				m.alike(t)
			}
			for i := range n {
				for call, e := range calls(m.p, i) {
					if e != api.ErrNone {
						t.Fatalf("%d voices, of the free one %d: %d: %v", n, i, call, e)
					}
				}
			}
			m.render(t, 2)
			// It was stopped, or it ended, or nothing is played any more.
			for i := range n {
				m.start(t, "a", env.Plain())
				if k == 0 {
					m.release(t, i)
				}
			}
			m.render(t, 1)
			for i := range n {
				if k == 1 {
					m.stop(t, i)
				}
			}
			if k == 2 {
				m.quiet(t)
			}
		}
	}
}

// Promise 23.2: one that is stopped is free at once; it does not end in what is rendered then, and the others play on.
func TestStop(t *testing.T) {
	p := table(t, 3, flat("a", 400, 1000), flat("b", 400, 50), flat("c", 400, 7))
	for _, name := range []string{"a", "b", "c"} {
		start(t, p, name, env.Shape{Sustain: 256, Release: 100})
	}
	if x := render(t, p, 1).Out[0]; x != (api.Stereo{L: 1057, R: 1057}) {
		t.Fatal(x)
	}
	must(t, p.Stop(1))
	if e := p.Stop(1); e != api.ErrNone || !slices.Equal(p.Live(), []int{0, 2}) {
		t.Fatal(e, p.Live())
	}
	if r := render(t, p, 1); r.Out[0] != (api.Stereo{L: 1007, R: 1007}) || len(r.Ended) != 0 {
		t.Fatal(r)
	}
	must(t, p.Stop(2), p.Stop(0))
	if r := render(t, p, 1); r.Out[0] != (api.Stereo{}) || len(r.Ended) != 0 || len(p.Live()) != 0 || r.Frames != 0 {
		t.Fatal(r)
	}
}

// Promise 23.2: one that is let go falls silent, then it ends; to let it go again changes nothing.
func TestRelease(t *testing.T) {
	p := table(t, 2, flat("a", 400, 1000), flat("b", 400, 1))
	start(t, p, "a", env.Shape{Sustain: 256, Release: 4})
	start(t, p, "b", env.Plain())
	render(t, p, 2)
	must(t, p.Release(0))
	r := render(t, p, 2)
	must(t, p.Release(0))
	s := render(t, p, 4)
	for i, want := range []int{1001, 751, 501, 251, 1, 1} {
		if x := append(r.Out, s.Out...)[i]; x != (api.Stereo{L: want, R: want}) {
			t.Fatal(i, x, want)
		}
	}
	if len(r.Ended) != 0 || !slices.Equal(s.Ended, []int{0}) || !slices.Equal(p.Live(), []int{1}) {
		t.Fatal(r.Ended, s.Ended, p.Live())
	}
	must(t, p.Release(1))
	if r := render(t, p, 2); r.Out[0] != (api.Stereo{}) || !slices.Equal(r.Ended, []int{1}) {
		t.Fatal(r)
	}
}

// Promise 23.2: each place of a sample is sought, and no other one; a wrong one changes nothing, and no other voice is moved.
func TestSeek(t *testing.T) {
	for _, s := range []api.Sample{ramp("a", 1, 70), round(ramp("a", 2, 70), 20, 30)} {
		image := pack(t, 60, s)
		m := newModel(t, image, image, 3, 0, 2)
		m.start(t, "a", env.Plain())
		m.start(t, "a", env.Plain())
		m.volume(t, 0, 0, 0)
		for at := range 70 {
			m.seek(t, 0, 69-at)
			m.seek(t, 1, at)
			for _, wrong := range append(far(), 70, 71) {
				m.seek(t, 1, wrong)
			}
			m.pitch(t, 1, 0)
			if x := m.render(t, 1).Out[0]; x.L != s.Data[0][wave.Unroll(wave.Meta(s), int64(at))] {
				t.Fatal(at, x)
			}
			if m.voices[0] == nil {
				m.start(t, "a", env.Shape{})
			}
		}
	}
}

// Promise 23.2: pitches up to the greatest one, and no others; these change nothing.
func TestPitch(t *testing.T) {
	image := pack(t, 24, round(ramp("a", 2, 70), 3, 60))
	m := newModel(t, image, image, 3, 0, 2)
	m.start(t, "a", env.Plain())
	m.start(t, "a", env.Plain())
	for _, pitch := range []int64{0, 1, 1<<27 - 1, 1 << 31, 1<<32 - 1, 1 << 32, 1<<32 + 1, 7 << 32, 1<<35 - 1, 1 << 35} {
		m.pitch(t, 1, pitch)
		m.seek(t, 1, 3)
		m.render(t, 1)
		for _, wrong := range []int64{math.MinInt64, -1 << 32, -2, -1, 1<<35 + 1, 9 << 32, 1 << 62, math.MaxInt64} {
			m.pitch(t, 1, wrong)
		}
		m.render(t, 1)
		if at, e := m.p.Place(1); at != 3<<32+2*pitch || e != api.OK {
			t.Fatal(pitch, at, e)
		}
	}
	if at, e := m.p.Place(0); at>>32 != 20 || e != api.OK {
		t.Fatal(at, e)
	}
}

// Promise 23.2: each loudness to each side, and no other one; a wrong one changes neither side.
func TestVolume(t *testing.T) {
	image := pack(t, 60, round(ramp("a", 2, 70), 60, 70))
	m := newModel(t, image, image, 3, 0, 2)
	m.start(t, "a", env.Plain())
	m.start(t, "a", env.Plain())
	for left := range 257 {
		right := (left*77 + 5) % 257
		m.volume(t, 1, left, right)
		for _, wrong := range append(far(), 257, 258, 512) {
			m.volume(t, 1, wrong, 9)
			m.volume(t, 1, 9, wrong)
			m.volume(t, 1, wrong, wrong)
		}
		m.seek(t, 1, left%60)
		m.seek(t, 0, 0)
		at := left % 60
		if x := m.render(t, 1).Out[0]; x.L != 7+heard(100*at+7, left, 256) || x.R != -8993+heard(100*at-8993, right, 256) {
			t.Fatal(left, right, x)
		}
	}
}

// Promise 23.2: where a voice is, also between two samples.
func TestPlace(t *testing.T) {
	p := table(t, 2, ramp("a", 1, 100))
	start(t, p, "a", env.Plain())
	start(t, p, "a", env.Plain())
	must(t, p.Pitch(1, 1<<31+5), p.Seek(1, 9))
	for n := range int64(50) {
		a, e := p.Place(0)
		b, g := p.Place(1)
		if a != n<<32 || b != 9<<32+n*(1<<31+5) || e != api.OK || g != api.OK {
			t.Fatal(n, a, b, e, g)
		}
		render(t, p, 1)
	}
}

// Promise 23.2: when all are quiet, all are free; that ends none in what is rendered then, and it may be played anew.
func TestQuiet(t *testing.T) {
	for n := 1; n <= 16; n++ {
		p := table(t, n, flat("a", 400, 100))
		p.Quiet()
		for range n {
			start(t, p, "a", env.Plain())
		}
		render(t, p, 1)
		p.Quiet()
		p.Quiet()
		if r := render(t, p, 9); len(p.Live()) != 0 || p.Voices() != n || !same(r, api.Report{Out: make([]api.Stereo, 9)}) {
			t.Fatal(p.Live(), r)
		}
		for i := range n {
			if e := p.Stop(i); e != api.ErrNone {
				t.Fatal(e)
			}
		}
		if i := start(t, p, "a", env.Plain()); i != 0 || render(t, p, 1).Out[0] != (api.Stereo{L: 100, R: 100}) {
			t.Fatal(i)
		}
	}
}

// Promise 23.3: 0 to 256 samples are rendered; other numbers are ErrRange, and nothing goes on.
func TestRenderRange(t *testing.T) {
	image := pack(t, 24, ramp("a", 2, 100), round(ramp("b", 1, 100), 0, 90))
	m := newModel(t, image, image, 2, 0, 3)
	m.start(t, "b", env.Shape{Attack: 5, Sustain: 3})
	for _, n := range append(far(), 257, 258, 512, 1024, -257) {
		m.start(t, "a", env.Plain())
		m.render(t, n)
		m.render(t, 1)
	}
	for n := range 257 {
		if r := m.render(t, n); len(r.Out) != n {
			t.Fatal(n, len(r.Out))
		}
	}
}

// Promise 23.3, by hand: a side's loudness times the shape's, divided to the nearest, halves upwards, at each voice by itself; the left is the first channel.
func TestLoudByHand(t *testing.T) {
	for _, x := range []struct{ x, side, sustain, want int }{
		{1000, 256, 256, 1000}, {-1000, 256, 256, -1000}, {32767, 256, 256, 32767}, {-32768, 256, 256, -32768},
		{1000, 0, 256, 0}, {1000, 256, 0, 0}, {1000, 128, 256, 500}, {1000, 256, 128, 500}, {1000, 128, 128, 250},
		{1, 128, 256, 1}, {-1, 128, 256, 0}, {1, 127, 256, 0}, {-1, 129, 256, -1}, {3, 128, 256, 2}, {-3, 128, 256, -1}, {-5, 256, 128, -2}, {5, 256, 128, 3},
		{1, 256, 127, 0}, {2, 128, 128, 1}, {-2, 128, 128, 0}, {1, 255, 128, 0}, {1, 255, 129, 1}, {-1, 255, 129, -1}, {-1, 255, 128, 0},
		{32767, 255, 255, 32512}, {-32768, 255, 255, -32512}, // 32511.507.., and -32512.5
		{-32768, 1, 1, 0}, {-32767, 1, 1, 0}, {32767, 1, 1, 0}, {-32768, 1, 3, -1}, {-32768, 3, 1, -1}, {-32768, 2, 1, -1},
	} {
		p := table(t, 1, api.Sample{Name: "a", Rate: 1, Data: [][]int{{x.x}, {1000}}})
		start(t, p, "a", env.Shape{Sustain: x.sustain})
		must(t, p.Volume(0, x.side, 256))
		if r := render(t, p, 1); r.Out[0].L != x.want || r.Out[0].L != heard(x.x, x.side, x.sustain) || r.Out[0].R != heard(1000, 256, x.sustain) {
			t.Fatal(x, r.Out)
		}
		start(t, p, "a", env.Shape{Sustain: x.sustain})
		must(t, p.Volume(0, 0, x.side))
		if r := render(t, p, 1); r.Out[0].L != 0 || r.Out[0].R != heard(1000, x.side, x.sustain) {
			t.Fatal(x, r.Out)
		}
	}
}

// Promise 23.3: at each shape's loudness of each side's, at the bounds of a sample, and about them.
func TestLoud(t *testing.T) {
	values := []int{-32768, -32767, -12345, -3, -1, 0, 1, 2, 777, 32766, 32767}
	p := table(t, 1, round(api.Sample{Name: "a", Rate: 1, Data: [][]int{values, values}}, 0, len(values)))
	for sustain := range 257 {
		start(t, p, "a", env.Shape{Sustain: sustain})
		for side := range 257 {
			must(t, p.Volume(0, side, 256-side))
			for i, x := range render(t, p, len(values)).Out {
				if x.L != heard(values[i], side, sustain) || x.R != heard(values[i], 256-side, sustain) {
					t.Fatal(values[i], side, sustain, x)
				}
			}
		}
	}
}

// Promise 23.3: each voice is rounded by itself, and only the sum of all is held within the bounds.
func TestMix(t *testing.T) {
	for _, x := range []struct {
		values []int
		side   int
		want   int
	}{
		{[]int{30000, 30000}, 256, 32767},
		{[]int{-30000, -30000}, 256, -32768},
		{[]int{30000, 30000, -30000}, 256, 30000},
		{[]int{-30000, -30000, 30000}, 256, -30000},
		{[]int{-30000, 30000, 30000, 30000, -32768}, 256, 27232},
		{[]int{32767, 1, -1}, 256, 32767},
		{[]int{32767, 1}, 256, 32767},
		{[]int{-32768, -1}, 256, -32768},
		{[]int{16384, 16383}, 256, 32767},
		{[]int{-16384, -16384}, 256, -32768},
		{[]int{1, 1}, 128, 2},
		{[]int{-1, -1}, 128, 0},
		{[]int{1, 1, 1}, 127, 0},
		{[]int{-1, -1, -1}, 129, -3},
		{slices.Repeat([]int{32767}, 16), 256, 32767},
		{slices.Repeat([]int{-32768}, 16), 256, -32768},
		{slices.Repeat([]int{2048}, 16), 255, 16 * 2040},
	} {
		var l []api.Sample
		for i, v := range x.values {
			l = append(l, api.Sample{Name: string(rune('a' + i)), Rate: 1, Data: [][]int{{v, 0}, {0, v}}})
		}
		p := table(t, 16, l...)
		for i := range l {
			start(t, p, l[i].Name, env.Plain())
			must(t, p.Volume(i, x.side, x.side))
		}
		if r := render(t, p, 2); r.Out[0] != (api.Stereo{L: x.want}) || r.Out[1] != (api.Stereo{R: x.want}) {
			t.Fatal(x, r.Out)
		}
	}
}

// Promise 23.3: a voice ends with the last sample of it: each length, at its own pitch, and at others.
func TestEnded(t *testing.T) {
	for n := 1; n <= 40; n++ {
		p := table(t, 1, ramp("a", 1, n))
		for _, pitch := range []int64{1 << 32, 1 << 31, 2 << 32, 3 << 32, 8 << 32, 1<<32 + 1} {
			lasts := int((int64(n)<<32 + pitch - 1) / pitch)
			start(t, p, "a", env.Plain())
			must(t, p.Pitch(0, pitch))
			if r := render(t, p, lasts-1); len(r.Ended) != 0 || len(p.Live()) != 1 {
				t.Fatal(n, pitch, r.Ended)
			}
			if r := render(t, p, 2); !slices.Equal(r.Ended, []int{0}) || len(p.Live()) != 0 || r.Out[1] != (api.Stereo{}) {
				t.Fatal(n, pitch, r)
			}
		}
	}
}

// Promise 23.3: those that end are told in order: sample by sample, and voice by voice; each once, also if its shape is over, too.
func TestEndedOrder(t *testing.T) {
	p := table(t, 6, ramp("a", 1, 4), ramp("b", 1, 3), ramp("c", 1, 9))
	for _, name := range []string{"a", "b", "c", "a", "b", "c"} {
		start(t, p, name, env.Shape{Sustain: 256, Release: 3})
	}
	render(t, p, 1)
	must(t, p.Release(3), p.Release(5), p.Stop(2))
	// The shapes of 3 and 5 are over with the fourth sample, in which 0 and 3 are done, too.
	if r := render(t, p, 9); !slices.Equal(r.Ended, []int{1, 4, 0, 3, 5}) || len(p.Live()) != 0 {
		t.Fatal(r.Ended)
	}
	start(t, p, "c", env.Plain())
	if r := render(t, p, 8); len(r.Ended) != 0 {
		t.Fatal(r.Ended)
	}
	if r := render(t, p, 8); !slices.Equal(r.Ended, []int{0}) {
		t.Fatal(r.Ended)
	}
}

// Promise 23.3: one whose shape is over ends with that sample, of which nothing may be heard; one that stays at silence plays on.
func TestEndedShape(t *testing.T) {
	p := table(t, 3, round(flat("a", 40, 1000), 0, 40))
	start(t, p, "a", env.Plain())
	start(t, p, "a", env.Shape{Attack: 2, Sustain: 256, Release: 1})
	start(t, p, "a", env.Shape{})
	must(t, p.Release(0), p.Release(1))
	r := render(t, p, 1)
	if !slices.Equal(r.Ended, []int{0, 1}) || r.Out[0] != (api.Stereo{}) || !slices.Equal(p.Live(), []int{2}) {
		t.Fatal(r, p.Live())
	}
	if r := render(t, p, 256); len(r.Ended) != 0 || !slices.Equal(p.Live(), []int{2}) {
		t.Fatal(r)
	}
	if at, e := p.Place(2); at != 257<<32 || e != api.OK {
		t.Fatal(at, e)
	}
	must(t, p.Release(2))
	if r := render(t, p, 1); !slices.Equal(r.Ended, []int{2}) {
		t.Fatal(r)
	}
	for n := range 30 {
		start(t, p, "a", env.Shape{Sustain: 256, Release: n})
		render(t, p, 1)
		must(t, p.Release(0))
		r := render(t, p, 40)
		if !slices.Equal(r.Ended, []int{0}) {
			t.Fatal(n, r.Ended)
		}
		heard := 0
		for heard < 40 && r.Out[heard].L > 0 {
			heard++
		}
		if heard != n {
			t.Fatal(n, heard)
		}
	}
}

// Promise 23.3: a voice that is not heard goes on: it asks for its frames, and loses them.
func TestUnheard(t *testing.T) {
	image := pack(t, 24, ramp("a", 1, 100))
	for _, quiet := range []func(p *player.Player) api.Errno{
		func(p *player.Player) api.Errno { return p.Volume(0, 0, 0) },
		func(p *player.Player) api.Errno {
			p.Quiet()
			_, e := p.Start("a", env.Shape{})
			return e
		},
	} {
		p := open(t, fetchOf(t, image, without(t, image, 0, 0, 1), 2, 0), 1)
		start(t, p, "a", env.Plain())
		must(t, quiet(p))
		r := render(t, p, 100)
		if !slices.Equal(r.Lost, []api.Loss{{Block: 1}}) || r.Frames != 7 || r.Reads == 0 || !slices.Equal(r.Ended, []int{0}) || !same(api.Report{Out: r.Out}, api.Report{Out: make([]api.Stereo, 100)}) {
			t.Fatal(r)
		}
	}
	p := open(t, fetchOf(t, image, without(t, image, 0, 0, 0), 2, 0), 1)
	start(t, p, "a", env.Plain())
	must(t, p.Release(0))
	if r := render(t, p, 1); !slices.Equal(r.Lost, []api.Loss{{}}) || r.Frames != 1 {
		t.Fatal(r) // the first sample needs its own block alone
	}
}

// Promise 23.3, by hand: what is lost is told sample by sample, voice by voice, channel by channel.
func TestLost(t *testing.T) {
	// Each page, and so each frame, is lost: each voice, at its own pitch, loses the blocks in which it comes.
	image := pack(t, 24, ramp("a", 2, 64), ramp("b", 1, 64))
	f := fetchOf(t, image, image, 4, 1)
	for page := range f.Disk().Pages() {
		must(t, f.Disk().Fail(page, -1))
	}
	p := open(t, f, 4)
	for _, name := range []string{"a", "b", "b", "a"} {
		start(t, p, name, env.Plain())
	}
	must(t, p.Stop(1), p.Seek(2, 24), p.Seek(3, 14))
	loss := func(voice, channel, block int) api.Loss {
		return api.Loss{Voice: voice, Channel: channel, Block: block}
	}
	r := render(t, p, 1)
	want := []api.Loss{
		loss(0, 0, 0), loss(0, 1, 0), // 0 needs the first block alone
		loss(2, 0, 1), loss(2, 0, 2), // 24 is nearer to the second block's end
		loss(3, 0, 0), loss(3, 0, 1), loss(3, 1, 0), loss(3, 1, 1),
	}
	if !slices.Equal(r.Lost, want) || r.Frames != 8 {
		t.Fatal(r.Lost, want, r.Frames)
	}
	if r := render(t, p, 7); len(r.Lost) != 0 || r.Frames != 0 {
		t.Fatal(r.Lost)
	}
	r = render(t, p, 9)
	want = []api.Loss{
		loss(0, 0, 1), loss(0, 1, 1), // its place 8, in the first sample
		loss(3, 0, 2), loss(3, 1, 2), // its place 24, in the third
		loss(2, 0, 3), // its place 40, in the ninth
	}
	if !slices.Equal(r.Lost, want) || r.Frames != 5 {
		t.Fatal(r.Lost, want, r.Frames)
	}
}

// Promise 23.3: what a voice lost ahead of its being stopped, or taken, is told once, and of no later one.
func TestLostOnce(t *testing.T) {
	image := pack(t, 24, ramp("a", 1, 64))
	p := open(t, fetchOf(t, image, without(t, image, 0, 0, 0, 2), 4, 0), 1)
	for range 3 {
		start(t, p, "a", env.Plain())
		if r := render(t, p, 5); !slices.Equal(r.Lost, []api.Loss{{}}) {
			t.Fatal(r.Lost)
		}
		if r := render(t, p, 5); len(r.Lost) != 0 {
			t.Fatal(r.Lost)
		}
	}
	must(t, p.Stop(0))
	if r := render(t, p, 5); len(r.Lost) != 0 {
		t.Fatal(r.Lost)
	}
}

// Promise 23.3: what is lost for a voice's last sample is told, too, with the end of it.
func TestLostAtTheEnd(t *testing.T) {
	image := pack(t, 24, ramp("a", 1, 1))
	p := open(t, fetchOf(t, image, without(t, image, 0, 0, 0), 4, 0), 2)
	start(t, p, "a", env.Plain())
	start(t, p, "a", env.Plain())
	if r := render(t, p, 3); !slices.Equal(r.Lost, []api.Loss{{}, {Voice: 1}}) || !slices.Equal(r.Ended, []int{0, 1}) || r.Frames != 2 {
		t.Fatal(r)
	}
}

// Promise 23.3: frames that were asked for, and readings, are counted anew by each rendering; what others do to the fetch and its disk is none of it.
func TestCounts(t *testing.T) {
	image := pack(t, 24, ramp("a", 1, 40))
	f := fetchOf(t, image, image, 4, 2)
	other := func() {
		for range 5 {
			f.Frame(0, 0, 0)
			f.Disk().Read(0)
			f.Empty()
		}
	}
	other()
	p := open(t, f, 2)
	start(t, p, "a", env.Plain())
	other()
	at, _, e := f.Bank().Where(0, 0, 0)
	must(t, e, f.Disk().Fail(at/64, 2))
	// A page that fails twice is read three times; 24 bytes from at on have one page, or two.
	pages := (at+23)/64 - at/64 + 1
	if r := render(t, p, 1); r.Frames != 1 || r.Reads != pages+2 || len(r.Lost) != 0 {
		t.Fatal(r, pages)
	}
	other()
	if r := render(t, p, 0); r.Frames != 0 || r.Reads != 0 {
		t.Fatal(r)
	}
	if r := render(t, p, 7); r.Frames != 0 || r.Reads != 0 {
		t.Fatal(r)
	}
	before := f.Disk().Reads()
	if r := render(t, p, 40); r.Frames != 2 || r.Reads != f.Disk().Reads()-before || r.Reads < 1 {
		t.Fatal(r)
	}
	// Two voices ask each for its own frames; the second one's pages are in memory.
	start(t, p, "a", env.Plain())
	start(t, p, "a", env.Plain())
	f.Empty()
	if r := render(t, p, 1); r.Frames != 2 || r.Reads != pages {
		t.Fatal(r, pages)
	}
}

// Promises 23.1 to 23.4: anything that may be done, in any order, with pages that fail, and bytes that are spoilt.
func TestAnything(t *testing.T) {
	r := chance(3)
	lost, ended := 0, 0
	for range 400 {
		l := r.list(4, 300)
		image := pack(t, 24+r.below(73), l...)
		m := newModel(t, image, image, 1+r.below(12), r.below(3), 1+r.below(16))
		for range 120 {
			i := r.below(m.most+2) - 1
			page := r.below(m.own.Disk().Pages())
			switch r.below(18) {
			case 0:
				fails := r.below(8) - 1
				m.both(func(f *fetch.Fetch) { f.Disk().Fail(page, fails) })
			case 1:
				at, xor := r.below(64), byte(r.below(256))
				m.both(func(f *fetch.Fetch) { f.Disk().Spoil(page, at, xor) })
			case 2:
				m.both(func(f *fetch.Fetch) { f.Disk().Heal(page) })
			case 3:
				m.both(func(f *fetch.Fetch) { f.Evict(page) })
			case 4:
				m.both(func(f *fetch.Fetch) { f.Empty() })
			case 5, 6, 7:
				m.start(t, "s"+strconv.Itoa(r.below(5)), r.shape(60))
			case 8:
				m.seek(t, i, r.below(310)-2)
			case 9:
				m.pitch(t, i, r.pitch())
			case 10:
				m.pitch(t, i, int64(r.next()))
			case 11:
				m.volume(t, i, r.below(262)-2, r.below(262)-2)
			case 12:
				m.release(t, i)
			case 13:
				if r.below(3) == 0 {
					m.stop(t, i)
				}
			case 14:
				if r.below(9) == 0 {
					m.quiet(t)
				}
			case 15:
				m.render(t, r.below(270)-5)
			default:
				told := m.render(t, r.below(30))
				lost += len(told.Lost)
				ended += len(told.Ended)
			}
			m.alike(t)
		}
	}
	if lost < 500 || ended < 500 {
		t.Fatal(lost, ended)
	}
}

// unrolled is what a voice of a sample plays at its own pitch from its beginning on, so long as it plays.
func unrolled(t *testing.T, b *bank.Bank, name string, n int) (left, right []int) {
	t.Helper()
	i, ok := b.Find(name)
	m, e := b.Meta(i)
	if !ok || e != api.OK {
		t.Fatal(ok, e)
	}
	first, e := b.Whole(i, 0)
	second, g := b.Whole(i, m.Channels-1)
	must(t, e, g)
	return wave.Unrolled(m, first, 0, n), wave.Unrolled(m, second, 0, n)
}

// Promise 23.5: without losses what is rendered is the mix of the whole decodes, unrolled, each as loud as its shape and its volume say: whatever the cache, whatever pages are let go, and in whatever parts.
func TestPlain(t *testing.T) {
	r := chance(4)
	for range 100 {
		l := r.list(5, 200)
		image := pack(t, 24+r.below(73), l...)
		p := open(t, fetchOf(t, image, image, 1+r.below(9), r.below(3)), 16)
		n := 500
		want := make([]api.Stereo, n)
		for i := range 1 + r.below(16) {
			name, s := l[r.below(5)].Name, r.shape(100)
			volumes := api.Stereo{L: r.below(257), R: r.below(257)}
			start(t, p, name, s)
			must(t, p.Volume(i, volumes.L, volumes.R))
			left, right := unrolled(t, fetchOf(t, image, image, 1, 0).Bank(), name, n)
			shape, e := env.New(s)
			must(t, e)
			for at, loud := range shape.Run(n) {
				want[at].L += heard(left[at], volumes.L, loud)
				want[at].R += heard(right[at], volumes.R, loud)
			}
		}
		for at := 0; at < n; {
			part := min(r.below(30), n-at)
			told := render(t, p, part)
			for i, x := range told.Out {
				if w := want[at+i]; x != (api.Stereo{L: bounded(w.L), R: bounded(w.R)}) {
					t.Fatal(at+i, x, w)
				}
			}
			if len(told.Lost) != 0 {
				t.Fatal(told.Lost)
			}
			at += part
		}
	}
}

// act is a step that is done to a player ahead of a sample.
type act struct {
	at int
	do func(p *player.Player)
}

// script is a row of steps, in the order of their samples.
func (c *chance) script(samples, steps, n int) []act {
	var l []act
	for range steps {
		a := act{at: c.below(n)}
		i, name, s, pitch, place, left, right := c.below(5), "s"+strconv.Itoa(c.below(samples)), c.shape(40), c.pitch(), c.below(200), c.below(257), c.below(257)
		a.do = []func(p *player.Player){
			func(p *player.Player) { p.Start(name, s) },
			func(p *player.Player) { p.Start(name, env.Plain()) },
			func(p *player.Player) { p.Release(i) },
			func(p *player.Player) { p.Pitch(i, pitch) },
			func(p *player.Player) { p.Seek(i, place) },
			func(p *player.Player) { p.Volume(i, left, right) },
			func(p *player.Player) { p.Stop(i) },
		}[c.below(7)]
		l = append(l, a)
	}
	slices.SortStableFunc(l, func(a, b act) int { return a.at - b.at })
	return l
}

// perform renders n samples with a script, in any parts, of none too: all reports as one. Between the parts pages may go.
func (c *chance) perform(t *testing.T, f *fetch.Fetch, l []act, n, most int, evict bool) api.Report {
	t.Helper()
	p := open(t, f, 5)
	var all api.Report
	for at := 0; at < n; {
		for len(l) > 0 && l[0].at == at {
			l[0].do(p)
			l = l[1:]
		}
		end := n
		if len(l) > 0 {
			end = l[0].at
		}
		r := render(t, p, min(c.below(most+1), end-at))
		at += len(r.Out)
		all = api.Report{Out: append(all.Out, r.Out...), Lost: append(all.Lost, r.Lost...), Ended: append(all.Ended, r.Ended...), Frames: all.Frames + r.Frames, Reads: all.Reads + r.Reads}
		if evict {
			f.Evict(c.below(f.Disk().Pages()))
			if c.below(20) == 0 {
				f.Empty()
			}
		}
	}
	return all
}

// Promise 23.5: a script is heard alike in whatever parts it is rendered, also if frames are lost; and so it is whatever the cache, but for the readings.
func TestParts(t *testing.T) {
	r := chance(5)
	for range 60 {
		image := pack(t, 24+r.below(73), r.list(6, 200)...)
		onDisk := image
		if r.below(2) == 0 { // frames that are lost each time that they are asked for
			onDisk = without(t, image, 0, 0, 0)
			onDisk = without(t, onDisk, 1, 1, 0)
			onDisk = without(t, onDisk, 3, 0, 0)
		}
		const n = 600
		l := r.script(6, 60, n)
		want := r.perform(t, fetchOf(t, image, onDisk, 3, 0), l, n, 256, false)
		if got := r.perform(t, fetchOf(t, image, onDisk, 3, 0), l, n, 1, false); !same(got, want) {
			t.Fatal("one by one")
		}
		if got := r.perform(t, fetchOf(t, image, onDisk, 3, 0), l, n, 20, false); !same(got, want) {
			t.Fatal("in parts")
		}
		for _, slots := range []int{1, 2, 7, 1024} {
			got := r.perform(t, fetchOf(t, image, onDisk, slots, slots%9), l, n, 40, slots%2 == 1)
			got.Reads = want.Reads
			if !same(got, want) {
				t.Fatal(slots, "slots")
			}
		}
	}
}

// Promise 23.5: pages that fail less often than they are tried are not heard.
func TestTries(t *testing.T) {
	r := chance(6)
	for range 40 {
		image := pack(t, 24+r.below(73), r.list(6, 200)...)
		l := r.script(6, 60, 400)
		want := r.perform(t, fetchOf(t, image, image, 3, 0), l, 400, 50, false)
		retry := 1 + r.below(8)
		f := fetchOf(t, image, image, 3, retry)
		for page := range f.Disk().Pages() {
			must(t, f.Disk().Fail(page, r.below(retry+1)))
		}
		got := r.perform(t, f, l, 400, 50, false)
		if got.Reads < want.Reads+f.Disk().Failed() || len(got.Lost) != 0 {
			t.Fatal(got.Reads, want.Reads, f.Disk().Failed(), got.Lost)
		}
		if got.Reads = want.Reads; !same(got, want) {
			t.Fatal(got, want)
		}
	}
}

// Promise 23.5: two players of one fetch, and what becomes of one of them, are apart.
func TestApart(t *testing.T) {
	r := chance(7)
	for range 30 {
		image := pack(t, 24+r.below(73), r.list(6, 200)...)
		f := fetchOf(t, image, image, 3, 0)
		l, other := r.script(6, 40, 300), open(t, f, 3)
		want := r.perform(t, f, l, 300, 9, false)
		for i := range l {
			do := l[i].do
			l[i].do = func(p *player.Player) {
				other.Start("s"+strconv.Itoa(r.below(6)), r.shape(9))
				other.Render(r.below(9))
				do(p)
			}
		}
		got := r.perform(t, f, l, 300, 9, false)
		if got.Reads = want.Reads; !same(got, want) {
			t.Fatal(got, want)
		}
	}
}

// Promise G4: how many frames are asked for, and pages read, at most.
func TestBound(t *testing.T) {
	r := chance(8)
	for range 60 {
		l := r.list(5, 300)
		image := pack(t, 24+r.below(73), l...)
		retry := r.below(3)
		f := fetchOf(t, image, image, 1, retry)
		for page := range f.Disk().Pages() {
			must(t, f.Disk().Fail(page, -r.below(2)))
		}
		voices := 1 + r.below(16)
		p := open(t, f, voices)
		for range 60 {
			start(t, p, l[r.below(5)].Name, env.Plain())
			p.Pitch(r.below(voices), r.pitch())
			n := r.below(9)
			if r := render(t, p, n); r.Frames > 16*n*voices || r.Reads > 3*(retry+1)*r.Frames {
				t.Fatal(n, voices, r.Frames, r.Reads)
			}
		}
	}
}

// Rule R3: a report, and the list of those that play, are their asker's.
func TestMemory(t *testing.T) {
	image := pack(t, 60, ramp("a", 1, 100))
	m := newModel(t, image, without(t, image, 0, 0, 0, 1, 2, 3, 4, 5, 6), 2, 0, 4)
	for range 4 {
		m.start(t, "a", env.Plain())
	}
	r, e := m.p.Render(30)
	want := m.want(30)
	must(t, e)
	live := m.p.Live()
	live[0], live[3] = 9, 9
	_ = append(live[:1], 7)
	m.alike(t)
	clear(r.Out)
	clear(r.Lost)
	_ = append(r.Out[:0], api.Stereo{L: 5})
	s, e := m.p.Render(256)
	must(t, e)
	if w := m.want(256); !same(s, w) || same(r, want) {
		t.Fatal(s, w)
	}
	_ = append(s.Ended[:0], 8, 8, 8, 8)
	if m.alike(t); len(m.p.Live()) != 0 {
		t.Fatal(m.p.Live())
	}
}

// Rule R1: a fetch whose cache is taken away, or that is emptied, is one of which all is lost, or nothing is found.
func TestTakenAway(t *testing.T) {
	image := pack(t, 24, ramp("a", 1, 20))
	f := fetchOf(t, image, image, 2, 0)
	p := open(t, f, 2)
	start(t, p, "a", env.Plain())
	f.Cache = nil
	if r := render(t, p, 20); !slices.Equal(r.Lost, []api.Loss{{}, {Block: 1}}) || r.Reads != 0 || r.Frames != 2 || !slices.Equal(r.Ended, []int{0}) {
		t.Fatal(r)
	}
	start(t, p, "a", env.Plain())
	*f = fetch.Fetch{}
	render(t, p, 20)
	if i, e := p.Start("a", env.Plain()); i != 0 || e == api.OK {
		t.Fatal(i, e)
	}
}

// Promise 23.4: a nil player, and one that New did not give: ErrState, 0, nothing.
func TestNobodyMade(t *testing.T) {
	for _, p := range []*player.Player{nil, {}, new(player.Player)} {
		for range 2 {
			if p.Quiet(); p.Voices() != 0 || len(p.Live()) != 0 {
				t.Fatal(p.Voices(), p.Live())
			}
			for _, s := range append(wrongShapes(), env.Plain()) {
				for _, name := range []string{"", "a"} {
					if i, e := p.Start(name, s); i != 0 || e != api.ErrState {
						t.Fatal(i, e)
					}
				}
			}
			for _, i := range append(far(), 0, 1, 15, 16, 256, 257) {
				for call, e := range calls(p, i) {
					if e != api.ErrState {
						t.Fatal(i, call, e)
					}
				}
				if at, _ := p.Place(i); at != 0 {
					t.Fatal(i, at)
				}
				if r, e := p.Render(i); e != api.ErrState || !reflect.DeepEqual(r, api.Report{}) {
					t.Fatal(i, r, e)
				}
			}
		}
	}
}
