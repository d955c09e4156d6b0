package fetch_test

import (
	"bytes"
	"encoding/binary"
	"hash/crc32"
	"math"
	"reflect"
	"slices"
	"testing"

	"calliope/api"
	"calliope/bank"
	"calliope/cache"
	"calliope/disk"
	"calliope/fetch"
	"calliope/frame"
)

const (
	whole = 64      // bytes of a page
	most  = 1 << 22 // bytes of an image
)

// chance is a row of numbers that look like chance, and are the same in each run.
type chance uint64

func (c *chance) next() uint64 {
	*c = *c*6364136223846793005 + 1442695040888963407
	x := uint64(*c)
	return x ^ x>>29
}

func (c *chance) below(n int) int {
	return int(c.next() >> 33 % uint64(n))
}

// bytes are so many.
func (c *chance) bytes(n int) []byte {
	b := make([]byte, n)
	for i := range b {
		b[i] = byte(c.below(256))
	}
	return b
}

// samples are so many, louder and quieter in turn, each eight of them.
func (c *chance) samples(length int) []int {
	l := make([]int, length)
	quiet := 0
	for i := range l {
		if i%8 == 0 {
			quiet = c.below(16)
		}
		l[i] = (c.below(1<<16) - 1<<15) >> quiet
	}
	return l
}

// order is each number below n once.
func (c *chance) order(n int) []int {
	l := make([]int, n)
	for i := range l {
		k := c.below(i + 1)
		l[i] = l[k]
		l[k] = i
	}
	return l
}

// list are so many samples of one or two channels, of at most so many samples each.
func (c *chance) list(n, most int) []api.Sample {
	var l []api.Sample
	for i := range n {
		s := api.Sample{Name: string([]byte{'s', byte('0' + i)}), Rate: 8000}
		length := 1 + c.below(most)
		for range 1 + (i+n)%2 {
			s.Data = append(s.Data, c.samples(length))
		}
		l = append(l, s)
	}
	return l
}

// far are numbers of samples, channels and blocks that there are not.
func far() []int {
	return []int{math.MinInt, math.MinInt + 1, -1 << 62, -1 << 32, -1 << 31, -64, -2, -1, 64, 1 << 16, 1 << 20, 1 << 31, 1 << 32, 1<<32 + 1, 1 << 60, 1 << 61, 1 << 62, math.MaxInt - 1, math.MaxInt}
}

// pack is the image of samples.
func pack(t *testing.T, size int, l ...api.Sample) []byte {
	t.Helper()
	b, e := bank.Pack(size, l...)
	if e != api.OK {
		t.Fatal(e)
	}
	return b
}

// parse is the bank of an image.
func parse(t *testing.T, image []byte) *bank.Bank {
	t.Helper()
	x, e := bank.Parse(image)
	if e != api.OK {
		t.Fatal(e)
	}
	return x
}

// cacheOf is a cache of an image's disk.
func cacheOf(t *testing.T, image []byte, slots, retry int) *cache.Cache {
	t.Helper()
	d, e := disk.New(image)
	if e != api.OK {
		t.Fatal(e)
	}
	c, e := cache.New(d, slots, retry)
	if e != api.OK {
		t.Fatal(e)
	}
	return c
}

// spot is a frame: its sample, channel and block, and by the chapter of images where it begins, and its sum.
type spot struct {
	i, channel, block int
	at                int
	sum               uint32
}

// spots are all frames of an image, read of its bytes alone.
func spots(image []byte) []spot {
	number := func(at int) int { return int(binary.BigEndian.Uint32(image[at:])) }
	var l []spot
	for i := range int(binary.BigEndian.Uint16(image[8:])) {
		entry := 16 + 64*i
		length, sums, first, channels := number(entry+32), number(entry+48), number(entry+52), int(image[entry+56])
		for from := 0; from < length; from += 16 {
			for channel := range channels {
				l = append(l, spot{i, channel, from / 16, first, uint32(number(sums))})
				sums += 4
				first += int(image[10])
			}
		}
	}
	return l
}

// opened is the frame that bytes of that sum are, by the chapter of images, or why it can't be had.
func opened(b []byte, sum uint32) (api.Frame, api.Errno) {
	if crc32.ChecksumIEEE(b) != sum {
		return api.Frame{}, api.ErrSum
	}
	f, e := frame.Read(b)
	if e != api.OK {
		return api.Frame{}, api.ErrForm
	}
	return f, api.OK
}

// model tells what a fetch does in another way: of a cache and a disk of its own, to which the same is done, and of the image's bytes.
type model struct {
	f      *fetch.Fetch
	twin   *cache.Cache
	size   int
	spots  []spot
	frames int
	missed int
}

// newModel is a fetch of an image's frames, and its model, through caches whose disks have that image, or another one.
func newModel(t *testing.T, image, onDisk []byte, slots, retry int) *model {
	t.Helper()
	f, e := fetch.New(parse(t, image), cacheOf(t, onDisk, slots, retry))
	if e != api.OK || f == nil {
		t.Fatal(f, e)
	}
	return &model{f: f, twin: cacheOf(t, onDisk, slots, retry), size: int(image[10]), spots: spots(image)}
}

// want is what a frame must be.
func (m *model) want(s spot) (api.Frame, api.Errno) {
	m.frames++
	b, e := m.twin.Span(s.at, m.size)
	var f api.Frame
	if e == api.OK {
		f, e = opened(b, s.sum)
	}
	if e != api.OK {
		m.missed++
	}
	return f, e
}

// ask asks for a frame, and tells its error.
func (m *model) ask(t *testing.T, s spot) api.Errno {
	t.Helper()
	want, why := m.want(s)
	if got, e := m.f.Frame(s.i, s.channel, s.block); e != why || !reflect.DeepEqual(got, want) {
		t.Fatalf("Frame(%d, %d, %d) = %+v, %v; want %+v, %v", s.i, s.channel, s.block, got, e, want, why)
	}
	m.alike(t)
	return why
}

// alike holds what a fetch and its cache tell against the model.
func (m *model) alike(t *testing.T) {
	t.Helper()
	if m.f.Frames() != m.frames || m.f.Missed() != m.missed {
		t.Fatalf("%d frames, %d missed; want %d, %d", m.f.Frames(), m.f.Missed(), m.frames, m.missed)
	}
	if got, want := m.f.Told(), m.twin.Told(); got != want {
		t.Fatalf("%+v; want %+v", got, want)
	}
	if got, want := m.f.Pages(), m.twin.Pages(); !slices.Equal(got, want) {
		t.Fatalf("the pages %d; want %d", got, want)
	}
	d, o := m.f.Disk(), m.twin.Disk()
	if d.Reads() != o.Reads() || d.Failed() != o.Failed() {
		t.Fatalf("%d readings, %d failed; want %d, %d", d.Reads(), d.Failed(), o.Reads(), o.Failed())
	}
}

// both does something to both caches, and their disks.
func (m *model) both(do func(c *cache.Cache)) {
	do(m.f.Cache)
	do(m.twin)
}

// refused asks for a frame that there is not, which changes nothing.
func (m *model) refused(t *testing.T, i, channel, block int, want api.Errno) {
	t.Helper()
	if f, e := m.f.Frame(i, channel, block); e != want || !reflect.DeepEqual(f, api.Frame{}) {
		t.Fatalf("Frame(%d, %d, %d) = %+v, %v; want %v", i, channel, block, f, e, want)
	}
	m.alike(t)
}

// The chapter's example: a frame that is asked for twice: Frames 2.
func TestExample(t *testing.T) {
	image := pack(t, 24, api.Sample{Name: "a", Rate: 1, Data: [][]int{{5}}})
	m := newModel(t, image, image, 1, 0)
	for range 2 {
		if _, e := m.f.Frame(0, 0, 0); e != api.OK {
			t.Fatal(e)
		}
	}
	if m.f.Frames() != 2 || m.f.Missed() != 0 {
		t.Fatal(m.f.Frames(), m.f.Missed())
	}
}

// Promise 18.1: a fetch has the very bank and the very cache, and has asked for nothing.
func TestNew(t *testing.T) {
	c := chance(1)
	for n := range 4 {
		x := parse(t, pack(t, 24+n, c.list(n, 40)...))
		for _, slots := range []int{1, 2, 1024} {
			p := cacheOf(t, x.Image(), slots, n)
			p.Get(0) // New leaves it where it is
			pages, told, reads := p.Pages(), p.Told(), p.Disk().Reads()
			f, e := fetch.New(x, p)
			if e != api.OK || f.Bank() != x || f.Cache != p {
				t.Fatal(f, e)
			}
			if f.Frames() != 0 || f.Missed() != 0 || p.Told() != told || p.Disk().Reads() != reads || !slices.Equal(p.Pages(), pages) {
				t.Fatal(f.Frames(), f.Missed(), p.Told(), p.Disk().Reads(), p.Pages())
			}
		}
	}
}

// Promise 18.1: what is no bank, or no cache, be it nil or one that nobody made, is ErrArg.
func TestNewWrong(t *testing.T) {
	image := pack(t, 24)
	x, p := parse(t, image), cacheOf(t, image, 1, 0)
	for _, b := range []*bank.Bank{nil, {}, new(bank.Bank), x} {
		for _, c := range []*cache.Cache{nil, {}, new(cache.Cache), {Stats: cache.Stats{Hits: 1}}, p} {
			want := api.ErrArg
			if b == x && c == p {
				want = api.OK
			}
			if f, e := fetch.New(b, c); e != want || (f == nil) != (want != api.OK) {
				t.Errorf("New(%v, %v): %v, %v; want %v", b, c, f, e, want)
			}
		}
	}
}

// Promise 18.1: what the cache's disk has is not asked. Of places that it has not each frame is asked for, and missed; of other bytes, too.
func TestOtherDisks(t *testing.T) {
	r := chance(2)
	image := pack(t, 60, r.list(3, 60)...)
	none, e := cache.New(&disk.Disk{}, 1, 0)
	if e != api.OK {
		t.Fatal(e)
	}
	f, e := fetch.New(parse(t, image), none)
	if e != api.OK {
		t.Fatal(e)
	}
	for i, s := range spots(image) {
		if x, e := f.Frame(s.i, s.channel, s.block); e != api.ErrRange || !reflect.DeepEqual(x, api.Frame{}) || f.Frames() != i+1 || f.Missed() != i+1 {
			t.Fatal(x, e, f.Frames(), f.Missed())
		}
	}
	errors := map[api.Errno]int{}
	for _, other := range [][]byte{nil, {1}, image[:len(image)/2], image[:len(image)-whole], make([]byte, len(image)), pack(t, 60, r.list(3, 60)...), pack(t, 24, r.list(2, 200)...)} {
		m := newModel(t, image, other, 2, 1)
		for _, s := range m.spots {
			errors[m.ask(t, s)]++
		}
	}
	if errors[api.ErrRange] == 0 || errors[api.ErrSum] == 0 || errors[api.OK] == 0 {
		t.Fatal(errors)
	}
}

// Promise 18.2: of a disk of more bytes all frames are had, and of one of fewer, if noughts alone are missing, for pages are filled up.
func TestLongerDisk(t *testing.T) {
	r := chance(3)
	image := pack(t, 33, r.list(2, 70)...)
	for _, other := range [][]byte{append(slices.Clone(image), r.bytes(300)...), bytes.TrimRight(image, "\x00")} {
		m := newModel(t, image, other, 3, 0)
		for _, s := range m.spots {
			if e := m.ask(t, s); e != api.OK {
				t.Fatal(e)
			}
		}
	}
}

// Promises 18.2 and 18.4: of a disk without faults each frame of all sizes is had as it is, whatever the cache.
func TestFrame(t *testing.T) {
	r := chance(4)
	for size := 24; size <= 96; size++ {
		for n := range 4 {
			image := pack(t, size, r.list(n, 70)...)
			m := newModel(t, image, image, 1+r.below(5), r.below(9))
			for range 2 {
				for _, k := range r.order(len(m.spots)) {
					s := m.spots[k]
					if e := m.ask(t, s); e != api.OK {
						t.Fatal(e)
					}
					// By hand, without a twin.
					want, e := frame.Read(image[s.at : s.at+size])
					if got, f := m.f.Frame(s.i, s.channel, s.block); e != api.OK || f != api.OK || !reflect.DeepEqual(got, want) {
						t.Fatalf("%+v, %v; want %+v, %v", got, f, want, e)
					}
					m.want(s)
				}
			}
		}
	}
}

// Promise 18.2: samples, channels and blocks that there are not are Where's errors, and no frame is asked for.
func TestWhere(t *testing.T) {
	r := chance(5)
	image := pack(t, 40, api.Sample{Name: "a", Rate: 1, Data: [][]int{r.samples(33)}}, api.Sample{Name: "b", Rate: 1, Data: [][]int{r.samples(16), r.samples(16)}})
	m := newModel(t, image, image, 2, 0)
	m.ask(t, m.spots[0])
	near := append(far(), 0, 1, 2, 3, 4)
	for _, i := range near {
		for _, channel := range near {
			for _, block := range near {
				switch {
				case i < 0 || i > 1:
					m.refused(t, i, channel, block, api.ErrNone)
				case channel < 0 || channel > i || block < 0 || block > []int{2, 0}[i]:
					m.refused(t, i, channel, block, api.ErrRange)
				}
			}
		}
	}
	for i, want := range []api.Errno{api.OK, api.OK, api.OK, api.ErrRange} {
		if _, e := m.f.Frame(0, 0, i); e != want {
			t.Fatalf("Frame(0, 0, %d): %v; want %v", i, e, want)
		}
	}
	if m.f.Frames() != 4 || m.f.Missed() != 0 {
		t.Fatal(m.f.Frames(), m.f.Missed())
	}
}

// Promise 18.2: of no samples there are no frames.
func TestNoSamples(t *testing.T) {
	image := pack(t, 24)
	m := newModel(t, image, image, 1, 0)
	for _, i := range append(far(), 0, 1) {
		m.refused(t, i, 0, 0, api.ErrNone)
		m.refused(t, i, i, i, api.ErrNone)
	}
}

// Promise 18.2, Span's error: a page that is lost lets just those frames be missed that lie in it, as long as it isn't healed; the pages ahead are taken all the same.
func TestLostPages(t *testing.T) {
	r := chance(6)
	for _, size := range []int{24, 31, 60, 64, 95, 96} {
		image := pack(t, size, r.list(3, 90)...)
		for page := range len(image) / whole {
			m := newModel(t, image, image, 1+page%4, page%3)
			m.both(func(c *cache.Cache) { c.Disk().Fail(page, -1) })
			for _, s := range m.spots {
				want := api.OK
				if s.at < (page+1)*whole && s.at+size > page*whole {
					want = api.ErrRead
				}
				for range 2 {
					if e := m.ask(t, s); e != want {
						t.Fatalf("the page %d is lost: the frame from %d on: %v; want %v", page, s.at, e, want)
					}
				}
			}
			m.both(func(c *cache.Cache) { c.Disk().Heal(page) })
			for _, s := range m.spots {
				if e := m.ask(t, s); e != api.OK {
					t.Fatal(e)
				}
			}
		}
	}
}

// Promise 18.2 and the cache's: a page is tried again as often as the cache does; one that fails as often is had, and one that fails once more is lost.
func TestTries(t *testing.T) {
	r := chance(7)
	image := pack(t, 96, r.list(1, 300)...)
	for retry := range 9 {
		for fails := range 20 {
			m := newModel(t, image, image, 2, retry)
			for _, s := range m.spots {
				m.both(func(c *cache.Cache) {
					c.Empty()
					c.Disk().Fail(s.at/whole, fails)
				})
				missed := 0
				for m.ask(t, s) != api.OK {
					missed++
				}
				if missed != fails/(retry+1) {
					t.Fatalf("%d readings fail, tried %d times more: missed %d times", fails, retry, missed)
				}
			}
		}
	}
}

// Promise 18.2, Open's error: each byte of a disk spoilt lets just the frame be missed in which it lies.
func TestSpoilt(t *testing.T) {
	r := chance(8)
	for _, size := range []int{24, 55, 96} {
		image := pack(t, size, r.list(3, 40)...)
		for at := range image {
			m := newModel(t, image, image, 4, 1)
			xor := byte(1 + r.below(255))
			m.both(func(c *cache.Cache) { c.Disk().Spoil(at/whole, at%whole, xor) })
			for _, s := range m.spots {
				want := api.OK
				if s.at <= at && at < s.at+size {
					want = api.ErrSum
				}
				if e := m.ask(t, s); e != want {
					t.Fatalf("the byte %d is spoilt: the frame from %d on: %v; want %v", at, s.at, e, want)
				}
			}
		}
	}
}

// Promise 18.2: what was spoilt stays so in the cache's slot, also when the disk is healed, until its page goes.
func TestSpoiltInCache(t *testing.T) {
	r := chance(9)
	image := pack(t, 32, r.list(1, 100)...)
	m := newModel(t, image, image, 1024, 0)
	s := m.spots[2]
	m.both(func(c *cache.Cache) { c.Disk().Spoil(s.at/whole, s.at%whole, 1) })
	for _, x := range []struct {
		do   func(c *cache.Cache)
		want api.Errno
	}{
		{func(c *cache.Cache) {}, api.ErrSum},
		{func(c *cache.Cache) { c.Disk().Heal(s.at / whole) }, api.ErrSum},
		{func(c *cache.Cache) { c.Evict(s.at / whole) }, api.OK},
		{func(c *cache.Cache) { c.Disk().Fail(s.at/whole, -1) }, api.OK},
		{func(c *cache.Cache) { c.Empty() }, api.ErrRead},
		{func(c *cache.Cache) { c.Disk().Fail(s.at/whole, 1) }, api.ErrRead},
		{func(c *cache.Cache) {}, api.OK},
	} {
		m.both(x.do)
		if e := m.ask(t, s); e != x.want {
			t.Fatalf("%v; want %v", e, x.want)
		}
	}
}

// Promise 18.2, Open's error: bytes whose sum is right, and that are no frame, are ErrForm; others of them are told by their sum, whatever form they have.
func TestForm(t *testing.T) {
	image := pack(t, 24, api.Sample{Name: "a", Rate: 1, Data: [][]int{make([]int, 48)}})
	dir := parse(t, image).Dir()
	good, e := frame.Bytes(api.Frame{}, 24)
	if e != api.OK {
		t.Fatal(e)
	}
	short, e := frame.Bytes(api.Frame{Width: [4]int{24, 24}, Q: api.Block{7: -1}}, 31)
	if e != api.OK {
		t.Fatal(e)
	}
	for _, b := range [][]byte{make([]byte, 24), bytes.Repeat([]byte{255}, 24), short[:24]} {
		built, e := bank.Build(24, dir, [][]byte{good, b, good})
		if e != api.OK {
			t.Fatal(e)
		}
		m := newModel(t, built, built, 3, 0)
		for i, s := range m.spots {
			if e := m.ask(t, s); e != []api.Errno{api.OK, api.ErrForm, api.OK}[i] {
				t.Fatal(i, e)
			}
		}
		// The disk has other bytes than the bank's sums are of: no frame, and a right one.
		for _, x := range []*model{newModel(t, image, built, 3, 0), newModel(t, built, image, 3, 0)} {
			if e := x.ask(t, x.spots[1]); e != api.ErrSum {
				t.Fatal(e)
			}
		}
	}
}

// The document's G2: a frame whose bytes were spoilt, and whose sum is right all the same, is had: as it is on the disk, not in the bank.
func TestForged(t *testing.T) {
	steps := api.Frame{Width: [4]int{24, 11}} // all bits behind its head are steps
	own, e := frame.Bytes(steps, 24)
	if e != api.OK {
		t.Fatal(e)
	}
	meta := parse(t, pack(t, 24, api.Sample{Name: "a", Rate: 1, Data: [][]int{{1}}})).Dir()
	image, e := bank.Build(24, meta, [][]byte{own})
	if e != api.OK {
		t.Fatal(e)
	}
	for at := 10 * 8; at < 24*8-32; at++ {
		other := slices.Clone(image)
		for k := range 33 { // the sum's polynomial, the highest power first: no sum tells it
			if uint64(0x104c11db7)>>(32-k)&1 == 1 {
				other[len(image)-32+(at+k)/8] ^= 1 << ((at + k) % 8)
			}
		}
		m := newModel(t, image, other, 1, 0)
		if s := m.spots[0]; s.at != len(image)-32 {
			t.Fatal(s.at)
		}
		if e := m.ask(t, m.spots[0]); e != api.OK {
			t.Fatal(e)
		}
		if f, _ := m.f.Frame(0, 0, 0); f.Q == steps.Q || f.Width != steps.Width {
			t.Fatal(f)
		}
	}
}

// Promises 18.2 and 18.4: anything that may be done to a cache and its disk, in any order: a frame is had as it is, or its error is ErrRead or ErrSum; and it takes three pages at most, each as often as it is tried.
func TestAnything(t *testing.T) {
	r := chance(10)
	errors := map[api.Errno]int{}
	for range 300 {
		size := 24 + r.below(73)
		image := pack(t, size, r.list(1+r.below(4), 120)...)
		retry := r.below(9)
		m := newModel(t, image, image, 1+r.below(6), retry)
		pages := len(image) / whole
		for range 150 {
			page, n, at, xor := r.below(pages), r.below(14)-2, r.below(whole), byte(r.below(256))
			switch r.below(16) {
			case 0:
				m.both(func(c *cache.Cache) { c.Evict(page) })
			case 1:
				m.both(func(c *cache.Cache) { c.Empty() })
			case 2:
				m.both(func(c *cache.Cache) { c.Disk().Fail(page, n) })
			case 3:
				m.both(func(c *cache.Cache) { c.Disk().Spoil(page, at, xor) })
			case 4, 5, 6:
				m.both(func(c *cache.Cache) { c.Disk().Heal(page) })
			case 7:
				m.both(func(c *cache.Cache) { c.Get(page) })
			default:
				s := m.spots[r.below(len(m.spots))]
				tries := m.f.Tries
				e := m.ask(t, s)
				errors[e]++
				if more := m.f.Tries - tries; more > 3*(retry+1) {
					t.Fatalf("%d tries", more)
				}
			}
		}
	}
	if len(errors) != 3 || errors[api.OK] == 0 || errors[api.ErrRead] == 0 || errors[api.ErrSum] == 0 {
		t.Fatal(errors)
	}
}

// Promise 18.4: of the greatest image, whose frames lie up to its end.
func TestGreatest(t *testing.T) {
	r := chance(11)
	const first, second = 1<<20 - 1<<14, 1<<14 - 64 // each block has 64 bytes, with its sum
	image := pack(t, 60, api.Sample{Name: "a", Rate: 1, Data: [][]int{r.samples(first)}}, api.Sample{Name: "b", Rate: 1, Data: [][]int{r.samples(second)}})
	if len(image) > most || len(image) < most-8*whole {
		t.Fatal(len(image))
	}
	m := newModel(t, image, image, 1024, 0)
	for k := 0; k < len(m.spots); k += 1 + r.below(400) {
		if e := m.ask(t, m.spots[k]); e != api.OK {
			t.Fatal(e)
		}
	}
	last := m.spots[len(m.spots)-1]
	if e := m.ask(t, last); e != api.OK {
		t.Fatal(e)
	}
	m.refused(t, last.i, 0, last.block+1, api.ErrRange)
}

// Promise 18.3: a nil fetch, and ones that New did not give, whatever cache they have.
func TestNotMade(t *testing.T) {
	image := pack(t, 24, api.Sample{Name: "a", Rate: 1, Data: [][]int{{1}}})
	c := cacheOf(t, image, 1, 0)
	for _, f := range []*fetch.Fetch{nil, {}, new(fetch.Fetch), {Cache: c}, {Cache: new(cache.Cache)}} {
		for _, n := range append(far(), 0, 1) {
			for _, k := range append(far(), 0) {
				if x, e := f.Frame(n, k, k); e != api.ErrState || !reflect.DeepEqual(x, api.Frame{}) {
					t.Fatalf("Frame(%d, %d, %d): %+v, %v", n, k, k, x, e)
				}
				if x, e := f.Frame(0, n, k); e != api.ErrState || !reflect.DeepEqual(x, api.Frame{}) {
					t.Fatalf("Frame(0, %d, %d): %+v, %v", n, k, x, e)
				}
			}
		}
		if f.Bank() != nil || f.Frames() != 0 || f.Missed() != 0 {
			t.Fatal(f.Bank(), f.Frames(), f.Missed())
		}
	}
	if c.Told() != (cache.Stats{}) || c.Disk().Reads() != 0 {
		t.Fatal(c.Told())
	}
}

// Rule R1: a fetch whose cache was taken away has no frames.
func TestCacheTakenAway(t *testing.T) {
	image := pack(t, 24, api.Sample{Name: "a", Rate: 1, Data: [][]int{{1}}})
	m := newModel(t, image, image, 1, 0)
	for _, c := range []*cache.Cache{nil, {}} {
		m.f.Cache = c
		if x, e := m.f.Frame(0, 0, 0); e != api.ErrState || !reflect.DeepEqual(x, api.Frame{}) {
			t.Fatal(x, e)
		}
		if _, e := m.f.Frame(1, 0, 0); e != api.ErrNone {
			t.Fatal(e)
		}
	}
}

// The document's section Ways, fetch: the cache's methods are one's own; what is done by either is told by both.
func TestPromoted(t *testing.T) {
	r := chance(12)
	image := pack(t, 24, r.list(2, 90)...)
	m := newModel(t, image, image, 2, 3)
	c := m.f.Cache
	b, e := m.f.Get(1)
	if e != api.OK || !bytes.Equal(b, image[whole:2*whole]) {
		t.Fatal(b, e)
	}
	if b, e = c.Span(10, 60); e != api.OK || !bytes.Equal(b, image[10:70]) {
		t.Fatal(b, e)
	}
	if m.f.Disk() != c.Disk() || m.f.Told() != c.Told() || m.f.Stats != c.Stats || !slices.Equal(m.f.Pages(), []int{1, 0}) || !slices.Equal(c.Pages(), []int{1, 0}) {
		t.Fatal(m.f.Told(), c.Told(), m.f.Pages())
	}
	if !m.f.Evict(1) || c.Evict(1) {
		t.Fatal("Evict")
	}
	c.Empty()
	if !slices.Equal(m.f.Pages(), []int{-1, -1}) {
		t.Fatal(m.f.Pages())
	}
	if m.f.Frames() != 0 || m.f.Missed() != 0 {
		t.Fatal("a page counts as a frame")
	}
}

// Rule R4: two fetches of one cache have pages in common, and count each for itself.
func TestTwoOfOneCache(t *testing.T) {
	r := chance(13)
	image := pack(t, 24, r.list(1, 16)...)
	c := cacheOf(t, image, 4, 0)
	x := parse(t, image)
	a, e := fetch.New(x, c)
	b, g := fetch.New(parse(t, image), c)
	if e != api.OK || g != api.OK {
		t.Fatal(e, g)
	}
	own, e := a.Frame(0, 0, 0)
	misses := c.Told().Misses
	other, g := b.Frame(0, 0, 0)
	if e != api.OK || g != api.OK || !reflect.DeepEqual(own, other) || c.Told().Misses != misses {
		t.Fatal(e, g, c.Told())
	}
	c.Empty()
	c.Disk().Fail(spots(image)[0].at/whole, 1)
	a.Frame(0, 0, 0)
	b.Frame(0, 0, 0)
	b.Frame(0, 0, 0)
	if a.Frames() != 2 || a.Missed() != 1 || b.Frames() != 3 || b.Missed() != 0 {
		t.Fatal(a.Frames(), a.Missed(), b.Frames(), b.Missed())
	}
}

// Rule R3: a frame is new memory: what is done to it no later answer tells.
func TestMemory(t *testing.T) {
	samples := make([]int, 64)
	for i := range samples {
		samples[i] = 30000 * (1 - i/8%2*2)
	}
	f := api.Frame{Tones: []api.Tone{{Index: 3, Value: 9000}, {Index: 12, Value: -9000}}}
	b, e := frame.Bytes(f, 24)
	if e != api.OK {
		t.Fatal(e)
	}
	dir := parse(t, pack(t, 24, api.Sample{Name: "a", Rate: 1, Data: [][]int{samples[:16]}})).Dir()
	image, e := bank.Build(24, dir, [][]byte{b})
	if e != api.OK {
		t.Fatal(e)
	}
	m := newModel(t, image, image, 2, 0)
	for range 3 {
		m.ask(t, m.spots[0])
		got, e := m.f.Frame(0, 0, 0)
		m.want(m.spots[0])
		if e != api.OK || !reflect.DeepEqual(got, f) {
			t.Fatalf("%+v, %v", got, e)
		}
		clear(got.Tones)
		clear(append(got.Tones, api.Tone{Index: 1}))
	}
	if !bytes.Equal(m.f.Bank().Image(), image) {
		t.Fatal("the bank has changed")
	}
}
