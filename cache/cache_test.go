package cache_test

import (
	"bytes"
	"math"
	"slices"
	"testing"

	"calliope/api"
	"calliope/cache"
	"calliope/disk"
)

const (
	whole = 64      // bytes of a page
	most  = 1 << 22 // bytes of an image
)

// chance is a row of numbers that look like chance, and are the same in each run.
type chance uint64

func (c *chance) next() uint64 {
	*c = *c*6364136223846793005 + 1442695040888963407
	x := uint64(*c)
	return x ^ x>>29
}

func (c *chance) below(n int) int {
	return int(c.next() >> 33 % uint64(n))
}

// bytes are so many.
func (c *chance) bytes(n int) []byte {
	b := make([]byte, n)
	for i := range b {
		b[i] = byte(c.below(256))
	}
	return b
}

// far are numbers that are neither pages nor places of any disk here, nor slots nor tries of any cache.
func far() []int {
	return []int{math.MinInt, math.MinInt + 1, -1 << 32, -1<<32 + 1, -1 << 31, -1025, -whole, -2, -1, most + 1, 1 << 31, 1 << 32, 1<<32 + 1, 1 << 57, 1 << 58, math.MaxInt - whole, math.MaxInt - 1, math.MaxInt}
}

// padded is an image's bytes, with noughts up to the end of its last page.
func padded(image []byte) []byte {
	b := slices.Clone(image)
	for len(b)%whole != 0 {
		b = append(b, 0)
	}
	return b
}

// place is a slot of a model.
type place struct {
	number int
	page   int // -1: none
	marked bool
	bytes  []byte
}

// model tells what a cache does in another way: its hand stands still, and the slots go past it, in a row whose first one is where the hand stands. It knows what befalls pages by itself, and never asks a disk.
type model struct {
	row    []place
	retry  int
	image  []byte // whole pages
	fails  map[int]int
	spoilt map[int][whole]byte
	told   cache.Stats
	failed int
}

func newModel(image []byte, slots, retry int) *model {
	m := &model{retry: retry, image: padded(image), fails: map[int]int{}, spoilt: map[int][whole]byte{}}
	for i := range slots {
		m.row = append(m.row, place{number: i, page: -1})
	}
	return m
}

// shown is a page as it is read now.
func (m *model) shown(page int) []byte {
	b := slices.Clone(m.image[page*whole : page*whole+whole])
	for i, x := range m.spoilt[page] {
		b[i] ^= x
	}
	return b
}

// tried is how often a page is read, and whether it is had in the end.
func (m *model) tried(page int) (int, bool) {
	n := m.fails[page]
	if n < 0 || n > m.retry {
		m.failed += m.retry + 1
		if n > 0 {
			m.fails[page] = n - m.retry - 1
		}
		return m.retry + 1, false
	}
	m.fails[page] = 0
	m.failed += n
	return n + 1, true
}

// take takes a page; nil: it is lost.
func (m *model) take(page int) []byte {
	for i := range m.row {
		if m.row[i].page == page {
			m.told.Hits++
			m.row[i].marked = true
			return m.row[i].bytes
		}
	}
	m.told.Misses++
	tries, had := m.tried(page)
	m.told.Tries += tries
	if !had {
		m.told.Lost++
		return nil
	}
	for m.row[0].page >= 0 && m.row[0].marked {
		m.row[0].marked = false
		m.goOn()
	}
	m.row[0] = place{m.row[0].number, page, true, m.shown(page)}
	m.goOn()
	return m.shown(page)
}

// goOn lets the first slot of the row be its last one.
func (m *model) goOn() {
	m.row = append(m.row[1:], m.row[0])
}

// span is so many bytes from one on, byte by byte; false: a page of them is lost.
func (m *model) span(at, n int) ([]byte, bool) {
	var b []byte
	var page []byte
	for i := at; i < at+n; i++ {
		if i == at || i%whole == 0 {
			if page = m.take(i / whole); page == nil {
				return nil, false
			}
		}
		b = append(b, page[i%whole])
	}
	return b, true
}

// evict lets a page go; false: there was none.
func (m *model) evict(page int) bool {
	for i, p := range m.row {
		if p.page == page && page >= 0 {
			m.row[i] = place{number: p.number, page: -1}
			return true
		}
	}
	return false
}

// empty lets all pages go.
func (m *model) empty() {
	for i, p := range m.row {
		m.row[i] = place{number: p.number, page: -1}
	}
}

// pages are the pages, slot by slot.
func (m *model) pages() []int {
	pages := make([]int, len(m.row))
	for _, p := range m.row {
		pages[p.number] = p.page
	}
	return pages
}

// pair is a cache, its disk, and the model of both.
type pair struct {
	c *cache.Cache
	d *disk.Disk
	m *model
}

func newPair(t *testing.T, image []byte, slots, retry int) pair {
	t.Helper()
	d, err := disk.New(image)
	if err != api.OK {
		t.Fatal(err)
	}
	c, err := cache.New(d, slots, retry)
	if err != api.OK || c == nil {
		t.Fatalf("New(%d slots, %d): %v, %v", slots, retry, c, err)
	}
	return pair{c, d, newModel(image, slots, retry)}
}

// alike holds what a cache and its disk tell against the model.
func (p pair) alike(t *testing.T) {
	t.Helper()
	if got, want := p.c.Told(), p.m.told; got != want {
		t.Fatalf("Told() is %+v, want %+v", got, want)
	}
	if got, want := p.c.Pages(), p.m.pages(); !slices.Equal(got, want) {
		t.Fatalf("Pages() is %v, want %v", got, want)
	}
	if p.d.Reads() != p.m.told.Tries || p.d.Failed() != p.m.failed {
		t.Fatalf("of the disk %d readings, %d failed, want %d, %d", p.d.Reads(), p.d.Failed(), p.m.told.Tries, p.m.failed)
	}
}

// get asks for a page that there is.
func (p pair) get(t *testing.T, page int) {
	t.Helper()
	got, err := p.c.Get(page)
	want := p.m.take(page)
	held(t, got, err, want, want != nil)
	p.alike(t)
}

// span asks for bytes that there are.
func (p pair) span(t *testing.T, at, n int) {
	t.Helper()
	got, err := p.c.Span(at, n)
	want, had := p.m.span(at, n)
	held(t, got, err, want, had)
	p.alike(t)
}

// held holds an answer against what is had, or lost.
func held(t *testing.T, got []byte, err api.Errno, want []byte, had bool) {
	t.Helper()
	if had && (err != api.OK || !bytes.Equal(got, want)) {
		t.Fatalf("%v, %v, want %v", got, err, want)
	}
	if !had && (err != api.ErrRead || len(got) != 0) {
		t.Fatalf("%v, %v, want none: lost", got, err)
	}
}

// evict lets a page go.
func (p pair) evict(t *testing.T, page int) {
	t.Helper()
	if got, want := p.c.Evict(page), p.m.evict(page); got != want {
		t.Fatalf("Evict(%d) is %v, want %v", page, got, want)
	}
	p.alike(t)
}

// empty lets all pages go.
func (p pair) empty(t *testing.T) {
	t.Helper()
	p.c.Empty()
	p.m.empty()
	p.alike(t)
}

// fail lets readings of a page fail.
func (p pair) fail(t *testing.T, page, n int) {
	t.Helper()
	if err := p.d.Fail(page, n); err != api.OK {
		t.Fatal(err)
	}
	p.m.fails[page] = n
}

// spoil lets a byte of a page be another one, and the others right.
func (p pair) spoil(t *testing.T, page, at int, xor byte) {
	t.Helper()
	if err := p.d.Spoil(page, at, xor); err != api.OK {
		t.Fatal(err)
	}
	b := [whole]byte{}
	b[at] = xor
	p.m.spoilt[page] = b
}

// heal lets a page be as it was.
func (p pair) heal(t *testing.T, page int) {
	t.Helper()
	if err := p.d.Heal(page); err != api.OK {
		t.Fatal(err)
	}
	delete(p.m.fails, page)
	delete(p.m.spoilt, page)
}

// refused asks for what there isn't, which changes nothing.
func (p pair) refused(t *testing.T, ask func() ([]byte, api.Errno), want api.Errno) {
	t.Helper()
	if b, err := ask(); err != want || len(b) != 0 {
		t.Fatalf("%v, %v, want none: %v", b, err, want)
	}
	p.alike(t)
}

// The chapter's example: two slots, the pages 0, 1, 0, 2: the page 2 is in the slot of 0.
func TestExample(t *testing.T) {
	d, err := disk.New(make([]byte, 3*whole))
	if err != api.OK {
		t.Fatal(err)
	}
	c, err := cache.New(d, 2, 0)
	if err != api.OK {
		t.Fatal(err)
	}
	for i, want := range [][]int{{0, -1}, {0, 1}, {0, 1}, {2, 1}} {
		if _, err := c.Get([]int{0, 1, 0, 2}[i]); err != api.OK {
			t.Fatal(err)
		}
		if got := c.Pages(); !slices.Equal(got, want) {
			t.Fatalf("behind %d pages: %v, want %v", i+1, got, want)
		}
	}
	if got, want := c.Told(), (cache.Stats{Hits: 1, Misses: 3, Tries: 3}); got != want {
		t.Fatalf("%+v, want %+v", got, want)
	}
}

// The words: a cache has at most 1024 slots.
func TestMaxSlots(t *testing.T) {
	var slots [cache.MaxSlots]int // of a constant alone
	if len(slots) != 1024 || api.MaxRetry != 8 {
		t.Fatalf("%d slots, %d times more", len(slots), api.MaxRetry)
	}
}

// Promise 17.1, New: any slots and tries that may be are a cache of empty slots, which has read nothing.
func TestNew(t *testing.T) {
	for _, slots := range []int{1, 2, 3, 16, 1022, 1023, 1024} {
		for retry := range 9 {
			p := newPair(t, make([]byte, 5*whole), slots, retry)
			if p.c.Disk() != p.d {
				t.Fatal("Disk() isn't the disk")
			}
			if n := len(p.c.Pages()); n != slots {
				t.Fatalf("%d slots, want %d", n, slots)
			}
			p.alike(t)
		}
	}
}

// Promise 17.1, New: a number that may not be, and no disk, is ErrArg.
func TestNewWrong(t *testing.T) {
	d, err := disk.New(make([]byte, whole))
	if err != api.OK {
		t.Fatal(err)
	}
	wrong := func(d *disk.Disk, slots, retry int) {
		t.Helper()
		if c, err := cache.New(d, slots, retry); err != api.ErrArg || c != nil {
			t.Fatalf("New(%v, %d, %d): %v, %v, want ErrArg", d != nil, slots, retry, c, err)
		}
	}
	for _, n := range append(far(), 0, 1025, 1026, 2048) {
		wrong(d, n, 0)
		wrong(d, n, 8)
		wrong(nil, n, 0)
		wrong(d, n, 9)
	}
	for _, n := range append(far(), 9, 10, 1024) {
		wrong(d, 1, n)
		wrong(d, 1024, n)
		wrong(nil, 1, n)
		wrong(nil, n, n)
	}
	wrong(nil, 1, 0)
	wrong(nil, 1024, 8)
	if d.Reads() != 0 {
		t.Fatalf("%d readings", d.Reads())
	}
}

// Promise 17.1: disks of no pages have none to ask for; that they are no nil ones is all that New asks.
func TestNoPages(t *testing.T) {
	none, err := disk.New(nil)
	if err != api.OK {
		t.Fatal(err)
	}
	for _, d := range []*disk.Disk{none, {}} {
		c, err := cache.New(d, 2, 1)
		if err != api.OK || c.Disk() != d {
			t.Fatal(c, err)
		}
		for _, n := range append(far(), 0, 1) {
			if b, err := c.Get(n); err != api.ErrRange || b != nil {
				t.Fatalf("Get(%d): %v, %v", n, b, err)
			}
			if b, err := c.Span(0, n); n != 0 && (err != api.ErrRange || b != nil) {
				t.Fatalf("Span(0, %d): %v, %v", n, b, err)
			}
			if b, err := c.Span(n, 0); n != 0 && (err != api.ErrRange || b != nil) {
				t.Fatalf("Span(%d, 0): %v, %v", n, b, err)
			}
		}
		if b, err := c.Span(0, 0); err != api.OK || len(b) != 0 {
			t.Fatal(b, err)
		}
		if c.Told() != (cache.Stats{}) || !slices.Equal(c.Pages(), []int{-1, -1}) {
			t.Fatal(c.Told(), c.Pages())
		}
	}
}

// Promise 17.1, Get: each page of images of each length up to three pages, the last one filled up with noughts.
func TestGet(t *testing.T) {
	r := chance(1)
	image := r.bytes(3 * whole)
	for n := range len(image) + 1 {
		p := newPair(t, image[:n], 2, 0)
		pages := (n + whole - 1) / whole
		for _, page := range []int{0, 1, 2, 0, 2, 1, 1} {
			if page < pages {
				p.get(t, page)
				continue
			}
			p.refused(t, func() ([]byte, api.Errno) { return p.c.Get(page) }, api.ErrRange)
		}
		p.refused(t, func() ([]byte, api.Errno) { return p.c.Get(pages) }, api.ErrRange)
	}
}

// Promise 17.1, Get: pages that there aren't are ErrRange, are not taken, and change nothing: not where slots are empty either.
func TestGetWrong(t *testing.T) {
	r := chance(2)
	p := newPair(t, r.bytes(4*whole-1), 3, 2)
	for step := range 5 {
		for _, page := range append(far(), 4, 5, whole, 4*whole) {
			p.refused(t, func() ([]byte, api.Errno) { return p.c.Get(page) }, api.ErrRange)
		}
		if step < 4 {
			p.get(t, step)
		}
	}
}

// Promise 17.1, Get: of the greatest disk the first and the last page are had, and none behind.
func TestGreatest(t *testing.T) {
	r := chance(3)
	p := newPair(t, r.bytes(most), 1024, 0)
	for _, page := range []int{0, 1<<16 - 1, 1 << 15, 0, 1<<16 - 1} {
		p.get(t, page)
	}
	p.refused(t, func() ([]byte, api.Errno) { return p.c.Get(1 << 16) }, api.ErrRange)
	p.span(t, most-1, 1)
	p.span(t, most-3*whole, 3*whole)
	p.span(t, most, 0)
	p.refused(t, func() ([]byte, api.Errno) { return p.c.Span(most, 1) }, api.ErrRange)
	p.refused(t, func() ([]byte, api.Errno) { return p.c.Span(0, most+1) }, api.ErrRange)
	p.span(t, 0, most)
}

// Promise 17.1, Get: a reading that fails is tried again as often as the cache does, each a try; a page that is never had is lost, and is in no slot.
func TestTries(t *testing.T) {
	r := chance(4)
	image := r.bytes(6 * whole)
	for retry := range 9 {
		for n := -2; n < 21; n++ {
			p := newPair(t, image, 2, retry)
			p.get(t, 0)
			p.fail(t, 3, n)
			for range 4 {
				p.get(t, 3) // until it is had, if it ever is
			}
			// Which slot is next tells where the hand stands.
			p.get(t, 4)
			p.get(t, 5)
			p.get(t, 3)
		}
	}
}

// Promise 17.1, Get: a page that fails as often as it is tried again is had, and one that fails once more is lost.
func TestTriedByHand(t *testing.T) {
	for retry := range 9 {
		d, err := disk.New([]byte{1, 2, 3})
		if err != api.OK {
			t.Fatal(err)
		}
		c, err := cache.New(d, 1, retry)
		if err != api.OK {
			t.Fatal(err)
		}
		d.Fail(0, retry+1)
		if b, err := c.Get(0); err != api.ErrRead || b != nil {
			t.Fatalf("%d times again: %v, %v, want ErrRead", retry, b, err)
		}
		if got, want := c.Told(), (cache.Stats{Misses: 1, Tries: retry + 1, Lost: 1}); got != want {
			t.Fatalf("%+v, want %+v", got, want)
		}
		d.Fail(0, retry)
		if b, err := c.Get(0); err != api.OK || len(b) != whole || b[0] != 1 {
			t.Fatalf("%d times again: %v, %v", retry, b, err)
		}
		if got, want := c.Told(), (cache.Stats{Misses: 2, Tries: 2*retry + 2, Lost: 1}); got != want {
			t.Fatalf("%+v, want %+v", got, want)
		}
	}
}

// The words: a page that a slot has is marked, and not read again, whatever befalls it since.
func TestHits(t *testing.T) {
	r := chance(5)
	p := newPair(t, r.bytes(4*whole), 2, 1)
	p.get(t, 1)
	p.fail(t, 1, -1)
	p.spoil(t, 1, 7, 0x80)
	for range 3 {
		p.get(t, 1)
		p.span(t, whole, whole)
	}
	p.evict(t, 1)
	p.get(t, 1) // lost now
	p.heal(t, 1)
	p.spoil(t, 1, 0, 1)
	p.get(t, 1) // had, with a byte that is spoilt
	p.heal(t, 1)
	p.get(t, 1) // as it was read
	p.empty(t)
	p.get(t, 1) // right again
}

// The words: the hand goes on by one each time, also from the slot that it told; where all are marked it takes their marks and comes back to where it stood.
func TestHand(t *testing.T) {
	for _, x := range []struct {
		slots int
		asked []int
		want  []int
	}{
		{1, []int{0, 1, 2}, []int{2}},
		{3, []int{0, 1, 2, 3}, []int{3, 1, 2}},       // round once: 0, 1 and 2 lose their marks
		{3, []int{0, 1, 2, 3, 4}, []int{3, 4, 2}},    // 1 had none
		{3, []int{0, 1, 2, 3, 1, 4}, []int{3, 1, 4}}, // 1 was marked anew: passed over
		{3, []int{0, 1, 2, 3, 1, 2, 4}, []int{3, 4, 2}},
		{3, []int{0, 1, 2, 3, 1, 4, 5}, []int{3, 5, 4}},
		{4, []int{0, 0, 1}, []int{0, 1, -1, -1}},
	} {
		p := newPair(t, make([]byte, 6*whole), x.slots, 0)
		for _, page := range x.asked {
			p.get(t, page)
		}
		if got := p.c.Pages(); !slices.Equal(got, x.want) {
			t.Fatalf("%d slots, %v: %v, want %v", x.slots, x.asked, got, x.want)
		}
	}
}

// The words, each row of up to seven pages out of four, with one to four slots.
func TestRows(t *testing.T) {
	image := make([]byte, 4*whole)
	for i := range image {
		image[i] = byte(i*7 + i/whole)
	}
	for slots := 1; slots <= 4; slots++ {
		for row := range 1 << 14 {
			p := newPair(t, image, slots, 0)
			for i := range 7 {
				got, err := p.c.Get(row >> (2 * i) & 3)
				held(t, got, err, p.m.take(row>>(2*i)&3), true)
			}
			p.alike(t)
		}
	}
}

// Promise 17.2: all places and all numbers of bytes of a small disk, and beyond.
func TestSpan(t *testing.T) {
	r := chance(6)
	image := r.bytes(2*whole + 5)
	for slots := 1; slots <= 4; slots++ {
		p := newPair(t, image, slots, 0)
		for at := range 3*whole + 3 {
			for n := range 3*whole + 3 {
				if at+n <= 3*whole {
					p.span(t, at, n)
					continue
				}
				p.refused(t, func() ([]byte, api.Errno) { return p.c.Span(at, n) }, api.ErrRange)
			}
		}
	}
}

// Promise 17.2: places and numbers below 0, and those whose sum has no room in 64 bits, are ErrRange, and no page is taken.
func TestSpanWrong(t *testing.T) {
	r := chance(7)
	p := newPair(t, r.bytes(3*whole), 2, 1)
	p.get(t, 1)
	for _, x := range append(far(), 3*whole+1) {
		for _, y := range append(far(), 0, 1, 2, whole, 3*whole-1, 3*whole, 3*whole+1) {
			p.refused(t, func() ([]byte, api.Errno) { return p.c.Span(x, y) }, api.ErrRange)
			p.refused(t, func() ([]byte, api.Errno) { return p.c.Span(y, x) }, api.ErrRange)
		}
	}
}

// Promise 17.2: of no bytes no page is taken, wherever that is, up to just behind the last one.
func TestSpanNone(t *testing.T) {
	p := newPair(t, make([]byte, 2*whole), 2, 1)
	p.fail(t, 0, -1)
	for at := range 2*whole + 1 {
		if b, err := p.c.Span(at, 0); err != api.OK || len(b) != 0 {
			t.Fatalf("Span(%d, 0): %v, %v", at, b, err)
		}
		p.alike(t)
	}
	p.refused(t, func() ([]byte, api.Errno) { return p.c.Span(2*whole+1, 0) }, api.ErrRange)
}

// Promise 17.2: the pages up to the first that is lost are taken, and stay; those behind it aren't asked for.
func TestSpanLost(t *testing.T) {
	r := chance(8)
	image := r.bytes(5 * whole)
	for lost := range 5 {
		for slots := 1; slots <= 5; slots++ {
			p := newPair(t, image, slots, 1)
			p.get(t, 2)
			p.fail(t, lost, -1)
			p.span(t, 0, 5*whole)
			p.span(t, whole-1, 3*whole+2)
			p.span(t, 2*whole, 1)
			p.heal(t, lost)
			p.span(t, 1, 5*whole-1)
		}
	}
	// By hand: of the pages 0 to 3 the page 2 is lost; it is tried once.
	p := newPair(t, image, 4, 0)
	p.fail(t, 2, -1)
	p.span(t, 0, 4*whole)
	if got, want := p.c.Told(), (cache.Stats{Misses: 3, Tries: 3, Lost: 1}); got != want {
		t.Fatalf("%+v, want %+v", got, want)
	}
	if got := p.c.Pages(); !slices.Equal(got, []int{0, 1, -1, -1}) {
		t.Fatal(got)
	}
}

// Promise 17.3, Evict: of each page in memory its slot alone is empty; of others, and of numbers that no page has, nothing is changed.
func TestEvict(t *testing.T) {
	r := chance(9)
	image := r.bytes(6 * whole)
	for page := -1; page < 7; page++ {
		for slots := 1; slots <= 5; slots++ {
			p := newPair(t, image, slots, 0)
			p.evict(t, page) // of empty slots
			for _, x := range []int{0, 1, 2, 3, 1} {
				p.get(t, x)
			}
			p.evict(t, page)
			p.evict(t, page)
			for _, n := range far() {
				p.evict(t, n)
			}
			for _, x := range []int{4, 0, 5, 3, 2, 1} {
				p.get(t, x)
			}
		}
	}
}

// Promise 17.3, Evict: the slot has no mark any more, so that the hand stops there; it isn't sought out from elsewhere.
func TestEvictMark(t *testing.T) {
	p := newPair(t, make([]byte, 6*whole), 3, 0)
	for _, page := range []int{0, 1, 2} {
		p.get(t, page)
	}
	p.evict(t, 1)
	p.get(t, 3) // from the slot of 0 on, whose mark goes
	if got := p.c.Pages(); !slices.Equal(got, []int{0, 3, 2}) {
		t.Fatal(got)
	}
	p.evict(t, 3)
	p.get(t, 0) // marked anew
	p.evict(t, 2)
	p.get(t, 4) // the hand stands at the slot of 2
	if got := p.c.Pages(); !slices.Equal(got, []int{0, -1, 4}) {
		t.Fatal(got)
	}
}

// Promise 17.3, Empty: all slots are empty, without marks, and the hand stands where it is, wherever that was.
func TestEmpty(t *testing.T) {
	r := chance(10)
	image := r.bytes(6 * whole)
	for slots := 1; slots <= 5; slots++ {
		for n := range 9 {
			p := newPair(t, image, slots, 0)
			for i := range n {
				p.get(t, i*5%6)
			}
			p.empty(t)
			p.empty(t)
			for page := range 6 {
				p.evict(t, page)
			}
			for page := range 6 {
				p.get(t, page)
			}
		}
	}
	p := newPair(t, image, 3, 0)
	p.get(t, 0)
	p.empty(t)
	p.get(t, 5)
	if got := p.c.Pages(); !slices.Equal(got, []int{-1, 5, -1}) {
		t.Fatal(got)
	}
}

// Promises 17.1 to 17.3: anything that may be done, in any order, with pages that fail and bytes that are spoilt.
func TestAnything(t *testing.T) {
	r := chance(11)
	for range 400 {
		pages := 1 + r.below(12)
		p := newPair(t, r.bytes(pages*whole-r.below(whole)), 1+r.below(8), r.below(9))
		for range 150 {
			page := r.below(pages)
			switch r.below(12) {
			case 0:
				p.evict(t, page)
			case 1:
				if r.below(8) == 0 {
					p.empty(t)
				}
			case 2:
				p.fail(t, page, r.below(14)-2)
			case 3:
				p.spoil(t, page, r.below(whole), byte(r.below(256)))
			case 4:
				p.heal(t, page)
			case 5, 6:
				at := r.below(pages*whole + 1)
				p.span(t, at, r.below(min(pages*whole-at, 200)+1))
			default:
				p.get(t, page)
			}
		}
	}
}

// The words, with as many slots as there may be, and more pages than these.
func TestManySlots(t *testing.T) {
	r := chance(12)
	p := newPair(t, r.bytes(1500*whole), 1024, 1)
	for i := range 6000 {
		page := r.below(1500)
		got, err := p.c.Get(page)
		held(t, got, err, p.m.take(page), true)
		if i%7 == 0 {
			p.evict(t, r.below(1500))
		}
		if i%500 == 0 {
			p.alike(t)
		}
	}
	p.alike(t)
}

// Promise 17.4: a nil cache, and ones that New did not give, whatever is said to have been done.
func TestNotMade(t *testing.T) {
	for _, c := range []*cache.Cache{nil, {}, new(cache.Cache), {Stats: cache.Stats{Hits: 1, Misses: 2, Tries: 3, Lost: 4}}} {
		for _, n := range append(far(), 0, 1) {
			if b, err := c.Get(n); err != api.ErrState || b != nil {
				t.Fatalf("Get(%d): %v, %v, want ErrState", n, b, err)
			}
			for _, at := range append(far(), 0, 1) {
				if b, err := c.Span(at, n); err != api.ErrState || b != nil {
					t.Fatalf("Span(%d, %d): %v, %v, want ErrState", at, n, b, err)
				}
			}
			if c.Evict(n) {
				t.Fatalf("Evict(%d) is true", n)
			}
		}
		c.Empty()
		if c.Disk() != nil || c.Told() != (cache.Stats{}) || c.Pages() != nil {
			t.Fatal(c.Disk(), c.Told(), c.Pages())
		}
	}
}

// Promise 17.5: whatever the slots, and whatever was taken and let go, what a cache gives is the image.
func TestImage(t *testing.T) {
	r := chance(13)
	for range 300 {
		pages := 1 + r.below(9)
		image := padded(r.bytes(pages*whole - r.below(whole)))
		d, err := disk.New(image)
		if err != api.OK {
			t.Fatal(err)
		}
		c, err := cache.New(d, 1+r.below(10), r.below(9))
		if err != api.OK {
			t.Fatal(err)
		}
		for range 100 {
			at := r.below(len(image))
			n := r.below(len(image) - at + 1)
			if b, err := c.Span(at, n); err != api.OK || !bytes.Equal(b, image[at:at+n]) {
				t.Fatalf("Span(%d, %d): %v, %v", at, n, b, err)
			}
			page := r.below(pages)
			if b, err := c.Get(page); err != api.OK || !bytes.Equal(b, image[page*whole:page*whole+whole]) {
				t.Fatalf("Get(%d): %v, %v", page, b, err)
			}
			c.Evict(r.below(pages))
			if r.below(20) == 0 {
				c.Empty()
			}
		}
		if s := c.Told(); s.Lost != 0 || s.Tries != s.Misses || s.Tries != d.Reads() {
			t.Fatalf("%+v, %d readings", s, d.Reads())
		}
	}
}

// The words, R4: two caches of one disk have slots of their own; what befalls the disk's pages befalls both.
func TestTwoCaches(t *testing.T) {
	d, err := disk.New(make([]byte, 3*whole))
	if err != api.OK {
		t.Fatal(err)
	}
	a, _ := cache.New(d, 2, 0)
	b, _ := cache.New(d, 2, 1)
	a.Get(2)
	d.Fail(1, 2)
	if _, err := a.Get(1); err != api.ErrRead {
		t.Fatal(err)
	}
	if _, err := b.Get(1); err != api.OK {
		t.Fatal(err)
	}
	if got := a.Pages(); !slices.Equal(got, []int{2, -1}) {
		t.Fatal(got)
	}
	if got := b.Pages(); !slices.Equal(got, []int{1, -1}) {
		t.Fatal(got)
	}
	if a.Told() != (cache.Stats{Misses: 2, Tries: 2, Lost: 1}) || b.Told() != (cache.Stats{Misses: 1, Tries: 2}) {
		t.Fatal(a.Told(), b.Told())
	}
}

// Rule R3: answers are new memory: what is done to them no later answer tells.
func TestMemory(t *testing.T) {
	r := chance(14)
	image := r.bytes(3 * whole)
	p := newPair(t, image, 3, 0)
	for range 2 { // read of the disk, and out of slots
		for page := range 3 {
			b, err := p.c.Get(page)
			held(t, b, err, p.m.take(page), true)
			clear(b)
			clear(append(b, 1, 2, 3))
		}
		for _, x := range [][2]int{{0, 1}, {0, whole}, {whole, 2 * whole}, {3, 2 * whole}} {
			b, err := p.c.Span(x[0], x[1])
			want, had := p.m.span(x[0], x[1])
			held(t, b, err, want, had)
			clear(b)
			clear(append(b, 1, 2, 3))
		}
	}
	clear(p.c.Pages())
	p.alike(t)
	for page := range 3 {
		p.get(t, page)
	}
	for page := range 3 {
		b, err := p.d.Read(page)
		if err != api.OK || !bytes.Equal(b, image[page*whole:page*whole+whole]) {
			t.Fatalf("the disk's page %d: %v, %v", page, b, err)
		}
	}
	first, _ := p.c.Get(0)
	again, _ := p.c.Get(0)
	first[0]++
	if first[0] == again[0] {
		t.Fatal("two answers are one memory")
	}
}
