package disk_test

import (
	"bytes"
	"math"
	"testing"

	"calliope/api"
	"calliope/disk"
)

const (
	whole = 64      // bytes of a page
	most  = 1 << 22 // bytes of an image
)

// chance is a row of numbers that look like chance, and are the same in each run.
type chance uint64

func (c *chance) next() uint64 {
	*c = *c*6364136223846793005 + 1442695040888963407
	x := uint64(*c)
	return x ^ x>>29
}

func (c *chance) below(n int) int {
	return int(c.next() >> 33 % uint64(n))
}

// bytes are so many.
func (c *chance) bytes(n int) []byte {
	b := make([]byte, n)
	for i := range b {
		b[i] = byte(c.below(256))
	}
	return b
}

// far are numbers that are neither pages nor places of any disk here.
func far() []int {
	return []int{math.MinInt, math.MinInt + 1, -1 << 32, -1 << 31, -whole, -2, -1, 1 << 16, 1<<16 + 1, 1 << 31, 1 << 32, 1<<32 + 1, math.MaxInt - 1, math.MaxInt}
}

// event is something that was done with a page.
type event struct {
	kind byte // 'r' read, 'f' fail, 's' spoil, 'h' heal
	page int
	n    int
	xor  byte
}

// model tells what a disk does by looking back at all that was done: it keeps no state of its own.
type model struct {
	image []byte
	past  []event
}

// stop is where in the past something of a kind was last said of a page, or the page was healed; -1, if never.
func (m *model) stop(kind byte, page, before int) int {
	for i := before - 1; i >= 0; i-- {
		if e := m.past[i]; e.page == page && (e.kind == kind || e.kind == 'h') {
			return i
		}
	}
	return -1
}

// fails tells whether the reading at a place of the past failed: how many there were since readings were said to fail.
func (m *model) fails(at int) bool {
	page := m.past[at].page
	from := m.stop('f', page, at)
	if from < 0 || m.past[from].kind == 'h' {
		return false
	}
	readings := 0
	for _, e := range m.past[from:at] {
		if e.kind == 'r' && e.page == page {
			readings++
		}
	}
	return m.past[from].n < 0 || readings < m.past[from].n
}

// read is what a reading is told that is done now.
func (m *model) read(page int) ([]byte, api.Errno) {
	m.past = append(m.past, event{kind: 'r', page: page})
	if m.fails(len(m.past) - 1) {
		return nil, api.ErrRead
	}
	b := shown(m.image, page)
	if i := m.stop('s', page, len(m.past)); i >= 0 && m.past[i].kind == 's' {
		b[m.past[i].n] ^= m.past[i].xor
	}
	return b, api.OK
}

// counts are how many readings there were, and how many of them failed.
func (m *model) counts() (reads, failed int) {
	for i, e := range m.past {
		if e.kind != 'r' {
			continue
		}
		reads++
		if m.fails(i) {
			failed++
		}
	}
	return reads, failed
}

// shown is a page of an image, byte by byte; noughts behind its end.
func shown(image []byte, page int) []byte {
	b := make([]byte, whole)
	for i := range b {
		if at := page*whole + i; at < len(image) {
			b[i] = image[at]
		}
	}
	return b
}

// made is a disk of an image.
func made(t *testing.T, image []byte) *disk.Disk {
	t.Helper()
	d, err := disk.New(image)
	if err != api.OK || d == nil {
		t.Fatalf("New of %d bytes: %v, %v", len(image), d, err)
	}
	return d
}

// good holds that a page is read as some bytes.
func good(t *testing.T, d *disk.Disk, page int, want []byte) {
	t.Helper()
	if b, err := d.Read(page); err != api.OK || !bytes.Equal(b, want) {
		t.Fatalf("Read(%d): %v, %v; want %v", page, b, err, want)
	}
}

// lost holds that a reading of a page fails.
func lost(t *testing.T, d *disk.Disk, page int) {
	t.Helper()
	if b, err := d.Read(page); err != api.ErrRead || len(b) != 0 {
		t.Fatalf("Read(%d): %v, %v; want ErrRead", page, b, err)
	}
}

// counts holds how many readings there were, and how many of them failed.
func counts(t *testing.T, d *disk.Disk, reads, failed int) {
	t.Helper()
	if d.Reads() != reads || d.Failed() != failed {
		t.Fatalf("%d readings, %d failed; want %d, %d", d.Reads(), d.Failed(), reads, failed)
	}
}

// said holds what a call is told.
func said(t *testing.T, what string, err, want api.Errno) {
	t.Helper()
	if err != want {
		t.Fatalf("%s: %v, want %v", what, err, want)
	}
}

// Promise 16.1, New, Pages, Read: images of each length, and those about the greatest one.
func TestPages(t *testing.T) {
	c := chance(161)
	lengths := []int{most - whole - 1, most - whole, most - whole + 1, most - 1, most}
	for n := range 4*whole + 2 {
		lengths = append(lengths, n)
	}
	for _, n := range lengths {
		image := c.bytes(n)
		d := made(t, image)
		pages := n / whole
		if n%whole > 0 {
			pages++
		}
		if d.Pages() != pages {
			t.Fatalf("%d bytes: %d pages, want %d", n, d.Pages(), pages)
		}
		for page := range pages {
			good(t, d, page, shown(image, page))
		}
		for _, page := range []int{-1, pages, pages + 1} {
			if b, err := d.Read(page); err != api.ErrRange || len(b) != 0 {
				t.Fatalf("%d bytes: Read(%d): %v, %v", n, page, b, err)
			}
		}
		counts(t, d, pages, 0)
	}
}

// Promise 16.1, New: an image of more than 2^22 bytes.
func TestLong(t *testing.T) {
	for _, n := range []int{most + 1, most + 2, most + whole, 2 * most} {
		if d, err := disk.New(make([]byte, n)); err != api.ErrLong || d != nil {
			t.Fatalf("New of %d bytes: %v, %v", n, d, err)
		}
	}
}

// Promises 16.1 and 16.3: a disk of nothing is one that New gave: it has no pages, and so there is no such page.
func TestNothing(t *testing.T) {
	for _, image := range [][]byte{nil, {}} {
		d := made(t, image)
		if d.Pages() != 0 {
			t.Fatalf("%d pages", d.Pages())
		}
		for _, page := range append(far(), 0, 1) {
			_, err := d.Read(page)
			said(t, "Read", err, api.ErrRange)
			said(t, "Fail", d.Fail(page, 1), api.ErrRange)
			said(t, "Spoil", d.Spoil(page, 0, 1), api.ErrRange)
			said(t, "Heal", d.Heal(page), api.ErrRange)
		}
		counts(t, d, 0, 0)
	}
}

// Promise 16.1, New, Read (and rule R3): the image is copied, and isn't changed; what was read is new memory.
func TestMemory(t *testing.T) {
	c := chance(162)
	image := c.bytes(3*whole - 5)
	kept := bytes.Clone(image)
	d := made(t, image)
	for i := range image {
		image[i] ^= 255
	}
	for page := range 3 {
		b, err := d.Read(page)
		said(t, "Read", err, api.OK)
		for i := range b {
			b[i] ^= 170
		}
		_ = append(b, 1, 2, 3)
		good(t, d, page, shown(kept, page))
	}
	image = bytes.Clone(kept)
	d = made(t, image)
	said(t, "Spoil", d.Spoil(1, 7, 99), api.OK)
	first, _ := d.Read(1)
	second, _ := d.Read(1)
	if !bytes.Equal(first, second) || &first[0] == &second[0] || !bytes.Equal(image, kept) {
		t.Fatal("a page that is read twice shares memory, or the image was changed")
	}
}

// Promise 16.1 and rule R4: two disks of one image know nothing of one another.
func TestTwo(t *testing.T) {
	image := []byte{1, 2, 3}
	one, two := made(t, image), made(t, image)
	said(t, "Fail", one.Fail(0, -1), api.OK)
	said(t, "Spoil", one.Spoil(0, 1, 7), api.OK)
	lost(t, one, 0)
	good(t, two, 0, shown(image, 0))
	good(t, two, 0, shown(image, 0))
	counts(t, one, 1, 1)
	counts(t, two, 2, 0)
}

// Promises 16.1 and 16.2: a page that there is not is refused, ahead of a wrong place; it counts as no reading, and nothing is changed.
func TestRange(t *testing.T) {
	image := []byte{63: 1, 64: 2, 127: 3, 128: 4}
	d := made(t, image)
	for _, page := range append(far(), 3, 4, 63, 64) {
		b, err := d.Read(page)
		if err != api.ErrRange || len(b) != 0 {
			t.Fatalf("Read(%d): %v, %v", page, b, err)
		}
		said(t, "Heal", d.Heal(page), api.ErrRange)
		for _, n := range append(far(), 0, 1, 63, 64) {
			said(t, "Fail", d.Fail(page, n), api.ErrRange)
			said(t, "Spoil", d.Spoil(page, n, 1), api.ErrRange)
		}
	}
	counts(t, d, 0, 0)
	for page := range 3 {
		good(t, d, page, shown(image, page))
	}
	counts(t, d, 3, 0)
}

// Promise 16.2, Fail: just the next n readings of the page fail, and each one counts.
func TestFail(t *testing.T) {
	c := chance(163)
	image := c.bytes(3 * whole)
	for n := range 70 {
		d := made(t, image)
		said(t, "Fail", d.Fail(1, n), api.OK)
		counts(t, d, 0, 0)
		for i := range n {
			good(t, d, 0, shown(image, 0))
			lost(t, d, 1)
			good(t, d, 2, shown(image, 2))
			counts(t, d, 3*(i+1), i+1)
		}
		for range 5 {
			good(t, d, 1, shown(image, 1))
		}
		counts(t, d, 3*n+5, n)
	}
}

// Promise 16.2, Fail: of any number below 0 all readings fail, and of the greatest ones so many that they have no end here.
func TestFailAll(t *testing.T) {
	image := []byte{9}
	for _, n := range far() {
		d := made(t, image)
		said(t, "Fail", d.Fail(0, n), api.OK)
		for range 300 {
			lost(t, d, 0)
		}
		counts(t, d, 300, 300)
		said(t, "Fail", d.Fail(0, 0), api.OK)
		good(t, d, 0, shown(image, 0))
		counts(t, d, 301, 300)
	}
}

// Promise 16.2, Fail: what was said ahead is said no more, however many readings were left.
func TestFailAgain(t *testing.T) {
	image := []byte{9}
	for _, first := range []int{math.MinInt, -1, 0, 1, 2, 5, math.MaxInt} {
		for between := range 4 {
			for then := range 5 {
				d := made(t, image)
				said(t, "Fail", d.Fail(0, first), api.OK)
				for range between {
					d.Read(0)
				}
				said(t, "Fail", d.Fail(0, then), api.OK)
				for range then {
					lost(t, d, 0)
				}
				good(t, d, 0, shown(image, 0))
			}
		}
	}
}

// Promise 16.2, Spoil: each place and each byte; other places and other pages are as they were.
func TestSpoil(t *testing.T) {
	c := chance(164)
	image := c.bytes(3*whole - 20)
	for page := range 3 {
		d := made(t, image)
		for at := range whole {
			for xor := range 256 {
				said(t, "Spoil", d.Spoil(page, at, byte(xor)), api.OK)
				want := shown(image, page)
				want[at] ^= byte(xor)
				good(t, d, page, want)
			}
			for other := range 3 {
				if other != page {
					good(t, d, other, shown(image, other))
				}
			}
		}
		counts(t, d, 66*256-512+whole*2, 0)
	}
}

// Promise 16.2, Spoil: each reading is spoilt, and each by the byte that was said last; no other byte is, so one by nought is all as it was.
func TestSpoilAgain(t *testing.T) {
	image := []byte{5: 50, 6: 60}
	for _, x := range []struct {
		at  int
		xor byte
	}{{5, 1}, {5, 1}, {5, 255}, {6, 3}, {63, 7}, {0, 8}, {0, 0}, {6, 3}, {63, 0}, {1, 9}} {
		d := made(t, image)
		said(t, "Spoil", d.Spoil(0, 5, 1), api.OK)
		said(t, "Spoil", d.Spoil(0, x.at, x.xor), api.OK)
		want := shown(image, 0)
		want[x.at] ^= x.xor
		for range 3 {
			good(t, d, 0, want)
		}
		counts(t, d, 3, 0)
	}
}

// Promise 16.2, Spoil: a place that a page has not is refused, and what was said ahead stays.
func TestSpoilWrong(t *testing.T) {
	image := []byte{5: 50}
	d := made(t, image)
	for _, at := range append(far(), whole, whole+1, 127, 128, 256) {
		said(t, "Spoil", d.Spoil(0, at, 7), api.ErrArg)
		good(t, d, 0, shown(image, 0))
	}
	said(t, "Spoil", d.Spoil(0, 5, 1), api.OK)
	said(t, "Fail", d.Fail(0, 2), api.OK)
	for _, at := range append(far(), whole, whole+1) {
		said(t, "Spoil", d.Spoil(0, at, 7), api.ErrArg)
		said(t, "Spoil", d.Spoil(0, at, 0), api.ErrArg)
	}
	lost(t, d, 0)
	lost(t, d, 0)
	good(t, d, 0, shown([]byte{5: 51}, 0))
}

// Promises 16.1 and 16.2: a page may be both; that readings fail and that a byte is spoilt are said apart.
func TestBoth(t *testing.T) {
	image := []byte{5: 50}
	spoilt := shown([]byte{5: 53}, 0)
	for _, swap := range []bool{false, true} {
		d := made(t, image)
		if swap {
			said(t, "Fail", d.Fail(0, 2), api.OK)
		}
		said(t, "Spoil", d.Spoil(0, 5, 7), api.OK)
		if !swap {
			said(t, "Fail", d.Fail(0, 2), api.OK)
		}
		lost(t, d, 0)
		lost(t, d, 0)
		good(t, d, 0, spoilt)
		said(t, "Fail", d.Fail(0, 3), api.OK)
		said(t, "Fail", d.Fail(0, 0), api.OK)
		good(t, d, 0, spoilt)
		said(t, "Fail", d.Fail(0, 1), api.OK)
		said(t, "Spoil", d.Spoil(0, 5, 0), api.OK)
		lost(t, d, 0)
		good(t, d, 0, shown(image, 0))
	}
}

// Promise 16.2, Heal: no reading fails, no byte is spoilt; other pages stay as they are, and what was counted stays.
func TestHeal(t *testing.T) {
	c := chance(165)
	image := c.bytes(3 * whole)
	for _, n := range []int{math.MinInt, -1, 0, 1, 3, math.MaxInt} {
		d := made(t, image)
		for page := range 3 {
			said(t, "Heal", d.Heal(page), api.OK)
			said(t, "Spoil", d.Spoil(page, page, 7), api.OK)
			said(t, "Fail", d.Fail(page, n), api.OK)
		}
		d.Read(0)
		reads, failed := d.Reads(), d.Failed()
		said(t, "Heal", d.Heal(0), api.OK)
		counts(t, d, reads, failed)
		for range 3 {
			good(t, d, 0, shown(image, 0))
		}
		for page := 1; page < 3; page++ {
			for range 3 {
				if n != 0 && n != 1 {
					lost(t, d, page)
				}
			}
			said(t, "Fail", d.Fail(page, 0), api.OK)
			want := shown(image, page)
			want[page] ^= 7
			good(t, d, page, want)
		}
		said(t, "Heal", d.Heal(0), api.OK)
		good(t, d, 0, shown(image, 0))
	}
}

// Promise 16.2, Reads, Failed: readings of all pages, of each kind, together.
func TestCounts(t *testing.T) {
	d := made(t, make([]byte, 2*whole))
	counts(t, d, 0, 0)
	good(t, d, 0, make([]byte, whole))
	counts(t, d, 1, 0)
	said(t, "Fail", d.Fail(0, 1), api.OK)
	said(t, "Fail", d.Fail(1, -1), api.OK)
	said(t, "Spoil", d.Spoil(0, 3, 4), api.OK)
	counts(t, d, 1, 0)
	lost(t, d, 0)
	lost(t, d, 1)
	counts(t, d, 3, 2)
	good(t, d, 0, []byte{3: 4, 63: 0})
	lost(t, d, 1)
	counts(t, d, 5, 3)
	d.Read(2)
	d.Read(-1)
	counts(t, d, 5, 3)
}

// Promise 16.3: a nil disk, and one that New did not give; ErrState comes ahead of all others.
func TestNobody(t *testing.T) {
	for _, d := range []*disk.Disk{nil, {}, new(disk.Disk)} {
		for range 2 {
			if d.Pages() != 0 || d.Reads() != 0 || d.Failed() != 0 {
				t.Fatalf("%d pages, %d readings, %d failed", d.Pages(), d.Reads(), d.Failed())
			}
			for _, page := range append(far(), 0, 1) {
				b, err := d.Read(page)
				if err != api.ErrState || len(b) != 0 {
					t.Fatalf("Read(%d): %v, %v", page, b, err)
				}
				said(t, "Heal", d.Heal(page), api.ErrState)
				for _, n := range append(far(), 0, 1, 63, 64) {
					said(t, "Fail", d.Fail(page, n), api.ErrState)
					said(t, "Spoil", d.Spoil(page, n, 1), api.ErrState)
				}
			}
		}
	}
}

// Promise 16.4: a page of which nothing was said is read as it is in the image, whatever was said of its neighbours.
func TestUntold(t *testing.T) {
	c := chance(166)
	image := c.bytes(40*whole - 1)
	for untold := range 40 {
		d := made(t, image)
		for page := range 40 {
			if page != untold {
				said(t, "Fail", d.Fail(page, c.below(3)-1), api.OK)
				said(t, "Spoil", d.Spoil(page, c.below(whole), byte(c.below(256))), api.OK)
			}
		}
		for range 3 {
			for page := range 40 {
				if page == untold {
					good(t, d, page, shown(image, page))
				} else {
					d.Read(page)
				}
			}
		}
		counts(t, d, 120, d.Failed())
	}
}

// Promise 16.4: the first and the last page of the greatest image.
func TestGreatest(t *testing.T) {
	c := chance(167)
	image := c.bytes(most)
	d := made(t, image)
	last := 1<<16 - 1
	said(t, "Fail", d.Fail(last, 1), api.OK)
	said(t, "Spoil", d.Spoil(last, 63, 1), api.OK)
	good(t, d, 0, image[:whole])
	lost(t, d, last)
	want := bytes.Clone(image[most-whole:])
	want[63] ^= 1
	good(t, d, last, want)
	said(t, "Fail", d.Fail(last+1, 1), api.ErrRange)
	said(t, "Spoil", d.Spoil(last+1, 0, 1), api.ErrRange)
	said(t, "Heal", d.Heal(last+1), api.ErrRange)
}

// Promises 16.1, 16.2 and 16.4: any steps, against a model that looks back at all that was done.
func TestAnything(t *testing.T) {
	c := chance(168)
	for range 200 {
		image := c.bytes(c.below(5 * whole))
		pages := (len(image) + whole - 1) / whole
		d, m := made(t, image), &model{image: image}
		for range 150 {
			step(t, &c, d, m, c.below(pages+2)-1, pages)
			reads, failed := m.counts()
			counts(t, d, reads, failed)
		}
	}
}

// step does one thing with a disk and its model.
func step(t *testing.T, c *chance, d *disk.Disk, m *model, page, pages int) {
	t.Helper()
	there := api.OK
	if page < 0 || page >= pages {
		there = api.ErrRange
	}
	e := event{page: page, xor: byte(c.below(256))}
	var err api.Errno
	want := there
	switch c.below(8) {
	case 0:
		e.kind, e.n = 'f', c.below(7)-2
		err = d.Fail(page, e.n)
	case 1:
		e.kind, e.n = 's', c.below(whole+2)-1
		err = d.Spoil(page, e.n, e.xor)
		if there == api.OK && (e.n < 0 || e.n >= whole) {
			want = api.ErrArg
		}
	case 2:
		e.kind = 'h'
		err = d.Heal(page)
	default:
		var b, told []byte
		b, err = d.Read(page)
		if there == api.OK {
			told, want = m.read(page)
		}
		if !bytes.Equal(b, told) {
			t.Fatalf("Read(%d): %v, want %v", page, b, told)
		}
	}
	if err != want {
		t.Fatalf("%c %+v: %v, want %v", e.kind, e, err, want)
	}
	if err == api.OK && e.kind != 0 {
		m.past = append(m.past, e)
	}
}

// Example 1: Fail(0, 1): the first reading fails, the second does not.
func TestExample(t *testing.T) {
	d := made(t, []byte("CAL1"))
	said(t, "Fail", d.Fail(0, 1), api.OK)
	lost(t, d, 0)
	good(t, d, 0, append([]byte("CAL1"), make([]byte, 60)...))
}
