package bank_test

import (
	"bytes"
	"encoding/binary"
	"hash/crc32"
	"math"
	"reflect"
	"slices"
	"sort"
	"strings"
	"testing"

	"calliope/api"
	"calliope/bank"
	"calliope/code"
	"calliope/frame"
)

const (
	low  = -32768 // the least sample
	high = 32767  // the greatest one
	long = 1 << 20
	most = 1 << 22 // bytes of an image
	// letters are all bytes that a name may have, rising.
	letters = "!\"#$%&'()*+,-./0123456789:;<=>?@ABCDEFGHIJKLMNOPQRSTUVWXYZ[\\]^_`abcdefghijklmnopqrstuvwxyz{|}~"
)

// chance is a row of numbers that look like chance, and are the same in each run.
type chance uint64

func (c *chance) next() uint64 {
	*c = *c*6364136223846793005 + 1442695040888963407
	x := uint64(*c)
	return x ^ x>>29
}

func (c *chance) below(n int) int {
	return int(c.next() >> 33 % uint64(n))
}

// bytes are so many.
func (c *chance) bytes(n int) []byte {
	b := make([]byte, n)
	for i := range b {
		b[i] = byte(c.below(256))
	}
	return b
}

// name is one of at most so many bytes.
func (c *chance) name(most int) string {
	b := make([]byte, 1+c.below(most))
	for i := range b {
		b[i] = letters[c.below(len(letters))]
	}
	return string(b)
}

// samples are so many, louder and quieter in turn, each four of them.
func (c *chance) samples(length int) []int {
	l := make([]int, length)
	quiet := 0
	for i := range l {
		if i%4 == 0 {
			quiet = c.below(16)
		}
		l[i] = []int{low, high, 0, low + c.below(high-low+1), low + c.below(high-low+1)}[c.below(5)] >> quiet
	}
	return l
}

// meta is one that may be, of a sample of at most so many samples.
func (c *chance) meta(name string, most int) api.Meta {
	m := api.Meta{Name: name, Length: 1 + c.below(most), Rate: []int{1, 192000, 1 + c.below(192000)}[c.below(3)], Channels: 1 + c.below(2)}
	if c.below(2) == 0 {
		m.Loop, m.LoopStart = true, c.below(m.Length)
		m.LoopEnd = m.LoopStart + 1 + c.below(m.Length-m.LoopStart)
	}
	return m
}

// dir is a directory of so many samples that may be.
func (c *chance) dir(n, most int) []api.Meta {
	var names []string
	for len(names) < n {
		if name := c.name([]int{1, 3, 32}[c.below(3)]); !slices.Contains(names, name) {
			names = append(names, name)
		}
	}
	sort.Strings(names)
	var dir []api.Meta
	for _, name := range names {
		dir = append(dir, c.meta(name, most))
	}
	return dir
}

// list are the samples of a directory.
func (c *chance) list(dir []api.Meta) []api.Sample {
	var l []api.Sample
	for _, m := range dir {
		s := api.Sample{Name: m.Name, Rate: m.Rate, Loop: m.Loop, LoopStart: m.LoopStart, LoopEnd: m.LoopEnd}
		for range m.Channels {
			s.Data = append(s.Data, c.samples(m.Length))
		}
		l = append(l, s)
	}
	return l
}

// frame is bytes that may stand for one: a good one, most of the time.
func (c *chance) frame(size int) []byte {
	switch c.below(12) {
	case 0:
		return c.bytes(size)
	case 1:
		return make([]byte, size)
	case 2:
		return cut(size)
	}
	f := api.Frame{Gains: [4]int{c.below(4), 0, 0, c.below(4)}, Scale: [4]int{c.below(24), 0, c.below(12), 1}, Width: [4]int{9, 0, 7, 1}}
	if c.below(2) == 0 {
		f.Tones = []api.Tone{{Index: c.below(16), Value: int64(c.below(1<<24)) - 1<<23}}
	}
	for i := range 4 {
		f.Q[i], f.Q[8+i], f.Q[12+i] = int64(c.below(512))-256, int64(c.below(128))-64, int64(c.below(2))-1
	}
	b, e := frame.Bytes(f, size)
	if e != api.OK {
		panic(e)
	}
	return b
}

// frames are so many bytes each, as many as a directory has.
func (c *chance) frames(size int, dir []api.Meta) [][]byte {
	var l [][]byte
	for range total(dir) {
		l = append(l, c.frame(size))
	}
	return l
}

// shuffled are samples in another order.
func (c *chance) shuffled(l []api.Sample) []api.Sample {
	all := slices.Clone(l)
	for i := range all {
		k := i + c.below(len(all)-i)
		all[i], all[k] = all[k], all[i]
	}
	return all
}

// cut is a frame of 62 bytes of which the first ones alone are there; with more noughts, if there is room for them.
func cut(size int) []byte {
	f := api.Frame{Tones: []api.Tone{{Index: 0, Value: -1}, {Index: 15, Value: 1}}, Width: [4]int{24, 24, 24, 24}}
	f.Q[15] = 1
	b, e := frame.Bytes(f, max(62, size))
	if e != api.OK {
		panic(e)
	}
	return b[:size]
}

// far are numbers of things that there are not.
func far() []int {
	return []int{math.MinInt, math.MinInt + 1, -1 << 62, -1 << 32, -1 << 31, -64, -2, -1, 1 << 16, 1 << 31, 1 << 32, 1<<32 + 1, 1 << 61, 1 << 62, 1<<63 - 16, math.MaxInt - 1, math.MaxInt}
}

// sizes are all that frames may have.
func sizes() []int {
	var l []int
	for size := 24; size <= 96; size++ {
		l = append(l, size)
	}
	return l
}

// wrongSizes are some that frames may not have.
func wrongSizes() []int {
	return append(far(), 0, 1, 16, 22, 23, 97, 98, 128, 255, 256, 256+24, 1<<32+24)
}

// blocks is how many blocks so many samples have, one by one.
func blocks(length int) int {
	n := 0
	for room := 0; room < length; room += 16 {
		n++
	}
	return n
}

// total is how many frames all samples of a directory have.
func total(dir []api.Meta) int {
	n := 0
	for _, m := range dir {
		n += blocks(m.Length) * m.Channels
	}
	return n
}

// laid is the chapter's image, grown byte by byte, and its directory with places.
func laid(size int, dir []api.Meta, frames [][]byte) ([]byte, []api.Meta) {
	placed := slices.Clone(dir)
	var body []byte
	at := func() int { return 16 + 64*len(dir) + 4 + len(body) }
	fill := func(step int) {
		for at()%step != 0 {
			body = append(body, 0)
		}
	}
	for i, m := range placed {
		own := frames[:total(dir[i:i+1])]
		frames = frames[len(own):]
		placed[i].Sums = at()
		for _, b := range own {
			body = binary.BigEndian.AppendUint32(body, crc32.ChecksumIEEE(b))
		}
		fill(16)
		placed[i].First = at()
		for _, b := range own {
			body = append(body, b...)
		}
		if len(own) != blocks(m.Length)*m.Channels {
			panic("frames")
		}
	}
	fill(64)
	return append(begin(size, at(), placed), body...), placed
}

// begin is the head, the entries and their sum.
func begin(size, length int, placed []api.Meta) []byte {
	b := []byte("CAL1")
	b = binary.BigEndian.AppendUint32(b, uint32(length))
	b = binary.BigEndian.AppendUint16(b, uint16(len(placed)))
	b = append(b, byte(size), 0, 0, 0, 0, 0)
	for _, m := range placed {
		b = append(b, m.Name+strings.Repeat("\x00", 32-len(m.Name))...)
		for _, v := range []int{m.Length, m.Rate, m.LoopStart, m.LoopEnd, m.Sums, m.First} {
			b = binary.BigEndian.AppendUint32(b, uint32(v))
		}
		round := byte(0)
		if m.Loop {
			round = 1
		}
		b = append(b, byte(m.Channels), round, 0, 0, 0, 0, 0, 0)
	}
	return binary.BigEndian.AppendUint32(b, crc32.ChecksumIEEE(b))
}

// coded are the Metas and the frames of samples, in the order of their names.
func coded(size int, l []api.Sample) ([]api.Meta, [][]byte) {
	l = slices.Clone(l)
	sort.Slice(l, func(i, k int) bool { return l[i].Name < l[k].Name })
	coder, e := code.New(size)
	if e != api.OK {
		panic(e)
	}
	var dir []api.Meta
	var frames [][]byte
	for _, s := range l {
		m := api.Meta{Name: s.Name, Length: len(s.Data[0]), Rate: s.Rate, Channels: len(s.Data), Loop: s.Loop, LoopStart: s.LoopStart, LoopEnd: s.LoopEnd}
		var channels [][]api.Frame
		for _, samples := range s.Data {
			f, e := coder.Frames(samples)
			if e != api.OK {
				panic(e)
			}
			channels = append(channels, f)
		}
		for block := range blocks(m.Length) {
			for _, channel := range channels {
				b, e := frame.Bytes(channel[block], size)
				if e != api.OK {
					panic(e)
				}
				frames = append(frames, b)
			}
		}
		dir = append(dir, m)
	}
	return dir, frames
}

// mended is an image whose directory has the sum that it must have.
func mended(b []byte) []byte {
	b = slices.Clone(b)
	end := 16 + 64*int(binary.BigEndian.Uint16(b[8:]))
	if end+4 <= len(b) {
		binary.BigEndian.PutUint32(b[end:], crc32.ChecksumIEEE(b[:end]))
	}
	return b
}

// entry is what an entry's bytes say, and whether they are one.
func entry(b []byte) (api.Meta, bool) {
	number := func(at int) int { return int(binary.BigEndian.Uint32(b[at:])) }
	name, rest, _ := bytes.Cut(b[:32], []byte{0})
	m := api.Meta{Name: string(name), Length: number(32), Rate: number(36), LoopStart: number(40), LoopEnd: number(44), Sums: number(48), First: number(52), Channels: int(b[56]), Loop: b[57] != 0}
	ok := len(name) > 0 && bytes.Count(rest, []byte{0}) == len(rest) && bytes.Equal(b[58:], make([]byte, 6)) && b[57] < 2
	for _, c := range name {
		ok = ok && strings.IndexByte(letters, c) >= 0
	}
	ok = ok && m.Length >= 1 && m.Length <= long && m.Rate >= 1 && m.Rate <= 192000 && (m.Channels == 1 || m.Channels == 2)
	if m.Loop {
		return m, ok && m.LoopStart < m.LoopEnd && m.LoopEnd <= m.Length
	}
	return m, ok && m.LoopStart+m.LoopEnd == 0
}

// read is what an image says by the chapter's words, or why it is none.
func read(b []byte) ([]api.Meta, api.Errno) {
	if len(b) < 20 {
		return nil, api.ErrShort
	}
	if !bytes.HasPrefix(b, []byte{0x43, 0x41, 0x4c, 0x31}) || !bytes.Equal(b[11:16], make([]byte, 5)) {
		return nil, api.ErrForm
	}
	n, size := int(binary.BigEndian.Uint16(b[8:])), int(b[10])
	if size < 24 || size > 96 || n > 64 || int(binary.BigEndian.Uint32(b[4:])) != len(b) {
		return nil, api.ErrSize
	}
	if len(b) < 20+64*n {
		return nil, api.ErrShort
	}
	if crc32.ChecksumIEEE(b[:16+64*n]) != binary.BigEndian.Uint32(b[16+64*n:]) {
		return nil, api.ErrSum
	}
	var dir []api.Meta
	before := ""
	for i := range n {
		m, ok := entry(b[16+64*i:][:64])
		if !ok || m.Name <= before {
			return nil, api.ErrForm
		}
		dir, before = append(dir, m), m.Name
	}
	return dir, rightPlaces(size, len(b), dir)
}

// rightPlaces walks over an image byte by byte: where sums begin, frames, and where it ends.
func rightPlaces(size, length int, dir []api.Meta) api.Errno {
	at := 20 + 64*len(dir)
	for _, m := range dir {
		count := blocks(m.Length) * m.Channels
		if m.Sums != at {
			return api.ErrSize
		}
		for at += 4 * count; at%16 != 0; {
			at++
		}
		if m.First != at {
			return api.ErrSize
		}
		at += size * count
	}
	for at%64 != 0 {
		at++
	}
	if at != length {
		return api.ErrSize
	}
	return api.OK
}

// opened is the frame of bytes of a sum, or why they are no good one.
func opened(b []byte, sum uint32) (api.Frame, api.Errno) {
	if crc32.ChecksumIEEE(b) != sum {
		return api.Frame{}, api.ErrSum
	}
	f, e := frame.Read(b)
	if e != api.OK {
		return api.Frame{}, api.ErrForm
	}
	return f, api.OK
}

// model is a bank by the chapter's words: an image, what it says, and of each sample each frame's place.
type model struct {
	size  int
	dir   []api.Meta
	image []byte
}

// at is where a frame stands.
func (o model) at(m api.Meta, channel, block int) int {
	at := m.First
	for range block {
		at += m.Channels * o.size
	}
	return at + channel*o.size
}

// sum is the sum that the image has for a frame.
func (o model) sum(m api.Meta, channel, block int) uint32 {
	return binary.BigEndian.Uint32(o.image[m.Sums+4*(m.Channels*block+channel):])
}

// whole are a channel's samples, or the first frame's error.
func (o model) whole(m api.Meta, channel int) ([]int, api.Errno) {
	var l []api.Frame
	for block := range blocks(m.Length) {
		f, e := opened(o.image[o.at(m, channel, block):][:o.size], o.sum(m, channel, block))
		if e != api.OK {
			return nil, e
		}
		l = append(l, f)
	}
	coder, e := code.New(o.size)
	if e != api.OK {
		panic(e)
	}
	return coder.Samples(l, m.Length), api.OK
}

// parse is the bank of an image that is one.
func parse(t *testing.T, b []byte) *bank.Bank {
	t.Helper()
	x, e := bank.Parse(b)
	if e != api.OK || x == nil {
		t.Fatalf("Parse of %d bytes = %v, %v", len(b), x, e)
	}
	return x
}

// pack is the image of samples that may be packed.
func pack(t *testing.T, size int, l ...api.Sample) []byte {
	t.Helper()
	b, e := bank.Pack(size, l...)
	if e != api.OK {
		t.Fatalf("Pack(%d) of %d samples = %v", size, len(l), e)
	}
	return b
}

// build is the image of frames that may be one's.
func build(t *testing.T, size int, dir []api.Meta, frames [][]byte) []byte {
	t.Helper()
	b, e := bank.Build(size, dir, frames)
	if e != api.OK {
		t.Fatalf("Build(%d) of %d samples, %d frames = %v", size, len(dir), len(frames), e)
	}
	return b
}

func wantPackError(t *testing.T, size int, l []api.Sample, want api.Errno) {
	t.Helper()
	if b, e := bank.Pack(size, l...); e != want || len(b) != 0 {
		t.Errorf("Pack(%d) of %d samples = %d bytes, %v; want %v", size, len(l), len(b), e, want)
	}
}

func wantBuildError(t *testing.T, size int, dir []api.Meta, frames [][]byte, want api.Errno) {
	t.Helper()
	if b, e := bank.Build(size, dir, frames); e != want || len(b) != 0 {
		t.Errorf("Build(%d) of %d samples, %d frames = %d bytes, %v; want %v", size, len(dir), len(frames), len(b), e, want)
	}
}

func wantParseError(t *testing.T, b []byte, want api.Errno) {
	t.Helper()
	if x, e := bank.Parse(b); e != want || x != nil {
		t.Errorf("Parse of %d bytes = %v, %v; want %v", len(b), x, e, want)
	}
}

// wantBank holds all that a bank tells against the model.
func wantBank(t *testing.T, x *bank.Bank, o model) {
	t.Helper()
	if x.Size() != o.size || !slices.Equal(x.Dir(), o.dir) || !bytes.Equal(x.Image(), o.image) {
		t.Fatalf("a bank of %d, %+v; want %d, %+v", x.Size(), x.Dir(), o.size, o.dir)
	}
	for i, m := range o.dir {
		if got, e := x.Meta(i); e != api.OK || got != m {
			t.Fatalf("Meta(%d) = %+v, %v; want %+v", i, got, e, m)
		}
		if got, ok := x.Find(m.Name); !ok || got != i {
			t.Fatalf("Find(%q) = %d, %t; want %d", m.Name, got, ok, i)
		}
		wantFrames(t, x, o, i)
		wantSamples(t, x, o, i)
	}
}

// wantFrames holds a sample's frames against the model.
func wantFrames(t *testing.T, x *bank.Bank, o model, i int) {
	t.Helper()
	m := o.dir[i]
	var bad []int
	number := 0
	for block := range blocks(m.Length) {
		for channel := range m.Channels {
			at, sum := o.at(m, channel, block), o.sum(m, channel, block)
			if gotAt, gotSum, e := x.Where(i, channel, block); e != api.OK || gotAt != at || gotSum != sum {
				t.Fatalf("Where(%d, %d, %d) = %d, %x, %v; want %d, %x", i, channel, block, gotAt, gotSum, e, at, sum)
			}
			own := o.image[at : at+o.size]
			if got, e := x.Bytes(i, channel, block); e != api.OK || !bytes.Equal(got, own) {
				t.Fatalf("Bytes(%d, %d, %d) = %x, %v; want %x", i, channel, block, got, e, own)
			}
			f, why := opened(own, sum)
			if got, e := x.Open(i, channel, block, own); e != why || !reflect.DeepEqual(got, f) {
				t.Fatalf("Open(%d, %d, %d, %x) = %+v, %v; want %+v, %v", i, channel, block, own, got, e, f, why)
			}
			if why != api.OK {
				bad = append(bad, number)
			}
			number++
		}
	}
	if got := x.Bad(i); !slices.Equal(got, bad) {
		t.Fatalf("Bad(%d) = %d; want %d", i, got, bad)
	}
	if got := bank.Frames(m); got != number {
		t.Fatalf("Frames(%+v) = %d; want %d", m, got, number)
	}
}

// wantSamples holds a sample's samples against the model.
func wantSamples(t *testing.T, x *bank.Bank, o model, i int) {
	t.Helper()
	m := o.dir[i]
	want, first := api.Sample{Name: m.Name, Rate: m.Rate, Loop: m.Loop, LoopStart: m.LoopStart, LoopEnd: m.LoopEnd}, api.OK
	for channel := range m.Channels {
		l, why := o.whole(m, channel)
		if got, e := x.Whole(i, channel); e != why || !slices.Equal(got, l) {
			t.Fatalf("Whole(%d, %d) = %d, %v; want %d, %v", i, channel, got, e, l, why)
		}
		want.Data = append(want.Data, l)
		if first == api.OK {
			first = why
		}
	}
	if first != api.OK {
		want = api.Sample{}
	}
	if got, e := x.Unpack(i); e != first || !reflect.DeepEqual(got, want) {
		t.Fatalf("Unpack(%d) = %+v, %v; want %+v, %v", i, got, e, want, first)
	}
}

// wantNothing holds that each call that names a sample answers an error, and nothing beside it.
func wantNothing(t *testing.T, x *bank.Bank, i, channel, block int, want api.Errno) {
	t.Helper()
	if at, sum, e := x.Where(i, channel, block); at != 0 || sum != 0 || e != want {
		t.Errorf("Where(%d, %d, %d) = %d, %x, %v; want %v", i, channel, block, at, sum, e, want)
	}
	if b, e := x.Bytes(i, channel, block); len(b) != 0 || e != want {
		t.Errorf("Bytes(%d, %d, %d) = %x, %v; want %v", i, channel, block, b, e, want)
	}
	for _, b := range [][]byte{nil, make([]byte, 24), cut(24)} {
		if f, e := x.Open(i, channel, block, b); !reflect.DeepEqual(f, api.Frame{}) || e != want {
			t.Errorf("Open(%d, %d, %d, %x) = %+v, %v; want %v", i, channel, block, b, f, e, want)
		}
	}
}

// wantNone holds that there is no such sample, by an error.
func wantNone(t *testing.T, x *bank.Bank, i int, want api.Errno) {
	t.Helper()
	if m, e := x.Meta(i); m != (api.Meta{}) || e != want {
		t.Errorf("Meta(%d) = %+v, %v; want %v", i, m, e, want)
	}
	if s, e := x.Unpack(i); !reflect.DeepEqual(s, api.Sample{}) || e != want {
		t.Errorf("Unpack(%d) = %+v, %v; want %v", i, s, e, want)
	}
	if bad := x.Bad(i); len(bad) != 0 {
		t.Errorf("Bad(%d) = %d", i, bad)
	}
	for _, channel := range append(far(), 0, 1) {
		if l, e := x.Whole(i, channel); len(l) != 0 || e != want {
			t.Errorf("Whole(%d, %d) = %d, %v; want %v", i, channel, l, e, want)
		}
		wantNothing(t, x, i, channel, 0, want)
		wantNothing(t, x, i, 0, channel, want)
	}
}

// plain is a sample of so many noughts in each of its channels, that does not go round.
func plain(name string, lengths ...int) api.Sample {
	s := api.Sample{Name: name, Rate: 8000}
	for _, n := range lengths {
		s.Data = append(s.Data, make([]int, n))
	}
	return s
}

// many are so many plain samples, each of another name.
func many(n int) []api.Sample {
	var l []api.Sample
	for i := range n {
		l = append(l, plain("a"+strings.Repeat("!", i%8)+letters[i/8:i/8+1], 1))
	}
	return l
}

// alike are so many of the same bytes.
func alike(n int, b []byte) [][]byte {
	l := make([][]byte, n)
	for i := range l {
		l[i] = b
	}
	return l
}

// Promise 15.1: the sizes of an image's parts.
func TestParts(t *testing.T) {
	if bank.HeadBytes != 16 || bank.EntryBytes != 64 || bank.Align != 16 {
		t.Error(bank.HeadBytes, bank.EntryBytes, bank.Align)
	}
	at := 20
	for n := range 200 {
		if got := bank.Dir(n); got != at {
			t.Errorf("Dir(%d) = %d; want %d", n, got, at)
		}
		at += 64
	}
}

// Promise 15.1, Frames: block by block, whatever else is told.
func TestFrames(t *testing.T) {
	for n := range 400 {
		for channels := range 3 {
			for _, m := range []api.Meta{{}, {Name: "a", Rate: 8000}, {Name: "a b", Loop: true, LoopEnd: 7, Sums: 3, First: 5}} {
				m.Length, m.Channels = n, channels
				if got := bank.Frames(m); got != blocks(n)*channels {
					t.Errorf("Frames(%+v) = %d", m, got)
				}
			}
		}
	}
	for n := long - 40; n <= long+40; n++ {
		if got := bank.Frames(api.Meta{Length: n, Channels: 2}); got != 2*blocks(n) {
			t.Errorf("Frames of %d samples in two channels = %d", n, got)
		}
	}
}

// Promise 15.1, Frames: none of less than one sample, or one channel; an end of whatever there may be.
func TestFramesNone(t *testing.T) {
	for _, n := range append(far(), 0) {
		if n <= 0 && (bank.Frames(api.Meta{Length: n, Channels: 2}) != 0 || bank.Frames(api.Meta{Length: 40, Channels: n}) != 0) {
			t.Error(n)
		}
		for _, channels := range far() {
			bank.Frames(api.Meta{Length: n, Channels: channels})
		}
		bank.Dir(n)
	}
}

// Promise 15.1, Pack: the chapter's example, byte by byte.
func TestPackExample(t *testing.T) {
	b := pack(t, 24, api.Sample{Name: "kick", Rate: 8000, Loop: true, LoopStart: 1, LoopEnd: 3, Data: [][]int{{0, 0, 0, 0}}})
	want := "CAL1\x00\x00\x00\x80\x00\x01\x18\x00\x00\x00\x00\x00" +
		"kick" + strings.Repeat("\x00", 28) +
		"\x00\x00\x00\x04\x00\x00\x1f\x40\x00\x00\x00\x01\x00\x00\x00\x03\x00\x00\x00\x54\x00\x00\x00\x60" +
		"\x01\x01\x00\x00\x00\x00\x00\x00"
	want += string(binary.BigEndian.AppendUint32(nil, crc32.ChecksumIEEE([]byte(want))))
	silent := "\x40" + strings.Repeat("\x00", 23)
	want += string(binary.BigEndian.AppendUint32(nil, crc32.ChecksumIEEE([]byte(silent)))) + "\x00\x00\x00\x00\x00\x00\x00\x00" + silent + strings.Repeat("\x00", 8)
	if string(b) != want || len(want) != 128 {
		t.Errorf("%x; want %x", b, want)
	}
	m, e := parse(t, b).Meta(0)
	if e != api.OK || m.Sums != 84 || m.First != 96 || bank.Dir(1) != 84 {
		t.Error(m, e)
	}
}

// Promise 15.1, Pack: no samples have a head alone, filled up to a page.
func TestPackNone(t *testing.T) {
	for _, size := range sizes() {
		b := pack(t, size)
		want, _ := laid(size, nil, nil)
		if !bytes.Equal(b, want) || len(b) != 64 {
			t.Errorf("%x; want %x", b, want)
		}
		wantBank(t, parse(t, b), model{size: size, image: want})
	}
}

// Promises 15.1 and 15.6, Pack: any samples, in any order.
func TestPackAny(t *testing.T) {
	c := chance(1)
	for round := range 300 {
		size := 24 + round%73
		l := c.list(c.dir(c.below(6), 100))
		dir, frames := coded(size, l)
		want, placed := laid(size, dir, frames)
		if b := pack(t, size, c.shuffled(l)...); !bytes.Equal(b, want) {
			t.Fatalf("Pack(%d) of %+v = %x; want %x", size, l, b, want)
		}
		wantBank(t, parse(t, want), model{size, placed, want})
	}
}

// Promise 15.1, Pack: each length up to some blocks, in one channel and in two: sums that end at a multiple of 16 have frames just behind them.
func TestPackLengths(t *testing.T) {
	c := chance(2)
	near := 0
	for length := 1; length <= 140; length++ {
		for channels := 1; channels <= 2; channels++ {
			first, second := plain("a"), plain("b", 1)
			for range channels {
				first.Data = append(first.Data, c.samples(length))
			}
			dir, frames := coded(25, []api.Sample{first, second})
			want, placed := laid(25, dir, frames)
			if b := pack(t, 25, second, first); !bytes.Equal(b, want) {
				t.Fatalf("%d samples, %d channels: %x; want %x", length, channels, b, want)
			}
			if placed[0].First == placed[0].Sums+4*blocks(length)*channels {
				near++
			}
		}
	}
	if near == 0 {
		t.Error("no sums end where frames may begin")
	}
}

// Promise 15.1, Pack: 64 samples, no more.
func TestPackFull(t *testing.T) {
	l := many(64)
	dir, frames := coded(24, l)
	want, placed := laid(24, dir, frames)
	if b := pack(t, 24, l...); !bytes.Equal(b, want) {
		t.Errorf("%x; want %x", b, want)
	}
	wantBank(t, parse(t, want), model{24, placed, want})
	wantPackError(t, 24, many(65), api.ErrFull)
	wantPackError(t, 23, many(65), api.ErrSize)
}

// Promise 15.1, Pack: names are put in order by their bytes, whatever their lengths.
func TestPackNames(t *testing.T) {
	names := []string{"~", "a", "A", "!", "aa", "a!", "Z", "ab", "b", "~~", strings.Repeat("a", 32), strings.Repeat("~", 32), strings.Repeat("a", 31)}
	var l []api.Sample
	for i, name := range names {
		l = append(l, plain(name, 1+i))
	}
	x := parse(t, pack(t, 24, l...))
	sort.Strings(names)
	for i, m := range x.Dir() {
		if m.Name != names[i] {
			t.Errorf("%d: %q; want %q", i, m.Name, names[i])
		}
	}
	if len(x.Dir()) != len(names) {
		t.Error(len(x.Dir()))
	}
}

// Promise 15.1, Pack: sizes that frames may not have.
func TestPackSize(t *testing.T) {
	for _, size := range wrongSizes() {
		wantPackError(t, size, nil, api.ErrSize)
		wantPackError(t, size, []api.Sample{plain("a", 1)}, api.ErrSize)
		wantPackError(t, size, []api.Sample{plain("", 1)}, api.ErrSize)
	}
}

// Promise 15.1, Pack: CheckAll's error, of any samples that may not be packed.
func TestPackWrong(t *testing.T) {
	loop, slow, loud := plain("loop", 3), plain("slow", 3), plain("loud", 3, 3)
	loop.LoopEnd, slow.Rate, loud.Data[1][2] = 1, 0, high+1
	wrong := map[api.Errno]api.Sample{
		api.ErrName:  plain("a b", 3),
		api.ErrRate:  slow,
		api.ErrSize:  plain("sizes", 3, 4),
		api.ErrLoop:  loop,
		api.ErrRange: loud,
		api.ErrTwice: plain("same", 9),
	}
	for want, s := range wrong {
		l := []api.Sample{plain("same", 1), s}
		wantPackError(t, 24, l, want)
		wantPackError(t, 96, []api.Sample{l[1], l[0]}, want)
		wantPackError(t, 97, l, api.ErrSize)
		// Too many bytes are told last.
		l = append(l, plain("x", long, long), plain("y", long, long))
		wantPackError(t, 96, l, want)
	}
	wantPackError(t, 24, []api.Sample{plain("a", long+1)}, api.ErrSize)
	wantPackError(t, 24, []api.Sample{{}}, api.ErrName)
	wantPackError(t, 24, []api.Sample{plain("a")}, api.ErrSize)
}

// Promise 15.1, Pack: an image of just 2^22 bytes, and ones of a block more.
func TestPackLong(t *testing.T) {
	b := pack(t, 60, plain("long", 65534*16))
	if len(b) != most {
		t.Errorf("%d bytes", len(b))
	}
	if x := parse(t, b); x.Size() != 60 || len(x.Image()) != most || len(x.Bad(0)) != 0 {
		t.Error(x.Size())
	}
	wantPackError(t, 60, []api.Sample{plain("long", 65534*16+1)}, api.ErrLong)
	wantPackError(t, 24, []api.Sample{plain("a", long, long), plain("b", long)}, api.ErrLong)
	// Names alone, of samples that share their channels.
	var l []api.Sample
	for i := range 64 {
		s := plain("", long, long)
		if i > 0 {
			s.Data = l[0].Data
		}
		s.Name = letters[i : i+1]
		l = append(l, s)
	}
	wantPackError(t, 96, l, api.ErrLong)
}

// Rule R3: what is packed stays as it was, and what is answered is new.
func TestPackKeeps(t *testing.T) {
	c := chance(3)
	l := c.shuffled(c.list(c.dir(5, 60)))
	ahead := make([]api.Sample, len(l))
	for i, s := range l {
		ahead[i] = s
		ahead[i].Data = nil
		for _, samples := range s.Data {
			ahead[i].Data = append(ahead[i].Data, slices.Clone(samples))
		}
	}
	b := pack(t, 40, l...)
	want := slices.Clone(b)
	clear(b)
	if !reflect.DeepEqual(l, ahead) || !bytes.Equal(pack(t, 40, l...), want) {
		t.Error("packed samples are changed")
	}
}

// Promise 15.2, Build: any frames, be they good or not; their places are made anew.
func TestBuildAny(t *testing.T) {
	c := chance(4)
	for round := range 400 {
		size := 24 + round%73
		dir := c.dir(c.below(6), 100)
		frames := c.frames(size, dir)
		want, placed := laid(size, dir, frames)
		for i := range dir {
			dir[i].Sums, dir[i].First = c.below(1000)-500, []int{math.MinInt, math.MaxInt, 0, c.below(1000)}[c.below(4)]
		}
		if b := build(t, size, dir, frames); !bytes.Equal(b, want) {
			t.Fatalf("Build(%d) of %+v = %x; want %x", size, dir, b, want)
		}
		wantBank(t, parse(t, want), model{size, placed, want})
	}
}

// Promise 15.2, Build: nothing, and 64 samples.
func TestBuildEnds(t *testing.T) {
	for _, size := range sizes() {
		if want, _ := laid(size, nil, nil); !bytes.Equal(build(t, size, nil, nil), want) || !bytes.Equal(build(t, size, []api.Meta{}, [][]byte{}), want) {
			t.Error(size)
		}
	}
	dir, frames := coded(24, many(64))
	if want, _ := laid(24, dir, frames); !bytes.Equal(build(t, 24, dir, frames), want) {
		t.Error("64 samples")
	}
	dir, frames = coded(24, many(65))
	wantBuildError(t, 24, dir, frames, api.ErrFull)
}

// Promise 15.2, Build: sizes that frames may not have, whatever else is wrong.
func TestBuildSize(t *testing.T) {
	dir, frames := coded(24, []api.Sample{plain("a", 20)})
	for _, size := range wrongSizes() {
		wantBuildError(t, size, nil, nil, api.ErrSize)
		wantBuildError(t, size, dir, frames, api.ErrSize)
		wantBuildError(t, size, make([]api.Meta, 65), nil, api.ErrSize)
	}
}

// Promise 15.2, Build: of several errors the first one.
func TestBuildOrder(t *testing.T) {
	dir, frames := coded(24, many(65))
	right := slices.Clone(dir)
	dir[3].Rate = 0
	wantBuildError(t, 24, dir, nil, api.ErrFull)
	wantBuildError(t, 24, dir[:64], nil, api.ErrForm)
	wantBuildError(t, 24, right[:64], nil, api.ErrArg)
	long := []api.Meta{{Name: "a", Length: long, Rate: 1, Channels: 1}}
	wantBuildError(t, 96, long, alike(65535, make([]byte, 96)), api.ErrArg)
	wantBuildError(t, 96, long, alike(65536, make([]byte, 95)), api.ErrArg)
	wantBuildError(t, 96, long, alike(65536, make([]byte, 96)), api.ErrLong)
	wantBuildError(t, 24, right[:64], frames, api.ErrArg)
	wantBuildError(t, 24, right[:64], frames[:63], api.ErrArg)
}

// Promise 15.2, Build: a Meta that may not be, wherever it stands.
func TestBuildMeta(t *testing.T) {
	faults := []func(m *api.Meta){
		func(m *api.Meta) { m.Name = "" },
		func(m *api.Meta) { m.Name += " " },
		func(m *api.Meta) { m.Name += "\x00" },
		func(m *api.Meta) { m.Name += strings.Repeat("z", 32) },
		func(m *api.Meta) { m.Length = 0 },
		func(m *api.Meta) { m.Length = long + 1 },
		func(m *api.Meta) { m.Length = -16 },
		func(m *api.Meta) { m.Length += 1 << 32 },
		func(m *api.Meta) { m.Rate = 0 },
		func(m *api.Meta) { m.Rate = 192001 },
		func(m *api.Meta) { m.Rate += 1 << 32 },
		func(m *api.Meta) { m.Channels = 0 },
		func(m *api.Meta) { m.Channels = 3 },
		func(m *api.Meta) { m.Channels = -1 },
		func(m *api.Meta) { m.Channels += 256 },
		func(m *api.Meta) { m.LoopEnd = 1 },
		func(m *api.Meta) { m.LoopStart = 1 },
		func(m *api.Meta) { m.Loop = true },
		func(m *api.Meta) { m.Loop, m.LoopStart, m.LoopEnd = true, 1, m.Length+1 },
		func(m *api.Meta) { m.Loop, m.LoopStart, m.LoopEnd = true, 2, 2 },
		func(m *api.Meta) { m.Loop, m.LoopStart, m.LoopEnd = true, -1, 2 },
	}
	right, frames := coded(24, []api.Sample{plain("a", 20), plain("b", 16, 16), plain("c", 5)})
	for i, spoil := range faults {
		for at := range right {
			dir := slices.Clone(right)
			spoil(&dir[at])
			wantBuildError(t, 24, dir, frames, api.ErrForm)
			if t.Failed() {
				t.Fatal("fault", i)
			}
		}
	}
	build(t, 24, right, frames)
}

// Promise 15.2, Build: names rise, wherever they stand.
func TestBuildNames(t *testing.T) {
	for _, x := range []struct {
		names []string
		want  api.Errno
	}{
		{[]string{"a", "a"}, api.ErrForm},
		{[]string{"b", "a"}, api.ErrForm},
		{[]string{"aa", "a"}, api.ErrForm},
		{[]string{"a", "B"}, api.ErrForm},
		{[]string{"a", "b", "b"}, api.ErrForm},
		{[]string{"a", "c", "b"}, api.ErrForm},
		{[]string{"b", "a", "c"}, api.ErrForm},
		{[]string{"a", "b", "a"}, api.ErrForm},
		{[]string{"a", "aa", "b"}, api.OK},
		{[]string{"!", "a", "a!", "~"}, api.OK},
	} {
		var dir []api.Meta
		for _, name := range x.names {
			dir = append(dir, api.Meta{Name: name, Length: 1, Rate: 1, Channels: 1})
		}
		if _, e := bank.Build(24, dir, alike(len(dir), make([]byte, 24))); e != x.want {
			t.Errorf("%q: %v; want %v", x.names, e, x.want)
		}
	}
}

// Promise 15.2, Build: just as many frames as there must be, each of as many bytes.
func TestBuildFrames(t *testing.T) {
	dir, right := coded(30, []api.Sample{plain("a", 40), plain("b", 17, 17)})
	if len(right) != 7 {
		t.Fatal(len(right))
	}
	for n := range 20 {
		if n != 7 {
			wantBuildError(t, 30, dir, alike(n, right[0]), api.ErrArg)
		}
	}
	wantBuildError(t, 30, nil, right[:1], api.ErrArg)
	for at := range right {
		for _, size := range []int{0, 1, 24, 29, 31, 60, 96, 97, 1000} {
			frames := slices.Clone(right)
			frames[at] = make([]byte, size)
			wantBuildError(t, 30, dir, frames, api.ErrArg)
		}
		frames := slices.Clone(right)
		frames[at] = nil
		wantBuildError(t, 30, dir, frames, api.ErrArg)
	}
	wantBuildError(t, 31, dir, right, api.ErrArg)
	wantBuildError(t, 29, dir, right, api.ErrArg)
}

// Promise 15.2, Build: images of just 2^22 bytes, and of a frame more, of one sample and of many.
func TestBuildLong(t *testing.T) {
	for _, x := range []struct {
		size, frames, channels int
		want                   api.Errno
	}{{60, 65534, 1, api.OK}, {60, 65535, 1, api.ErrLong}, {28, 131068, 2, api.OK}, {28, 131070, 2, api.ErrLong}, {96, 41942, 1, api.OK}, {96, 41943, 1, api.ErrLong}} {
		dir := []api.Meta{{Name: "a", Length: x.frames / x.channels * 16, Rate: 1, Channels: x.channels}}
		b, e := bank.Build(x.size, dir, alike(x.frames, make([]byte, x.size)))
		if e != x.want || e == api.OK && len(b) != most || e != api.OK && len(b) != 0 {
			t.Errorf("Build(%d) of %d frames = %d bytes, %v; want %v", x.size, x.frames, len(b), e, x.want)
		}
	}
	var dir []api.Meta
	for i := range 64 {
		dir = append(dir, api.Meta{Name: letters[i : i+1], Length: long, Rate: 1, Channels: 2})
	}
	wantBuildError(t, 96, dir, alike(64*131072, make([]byte, 96)), api.ErrLong)
}

// Rule R3: what is built of stays as it was, and what is answered is new.
func TestBuildKeeps(t *testing.T) {
	c := chance(5)
	dir := c.dir(4, 60)
	frames := c.frames(33, dir)
	dir[1].Sums, dir[2].First = 7, -7
	dirAhead := slices.Clone(dir)
	var framesAhead [][]byte
	for _, b := range frames {
		framesAhead = append(framesAhead, slices.Clone(b))
	}
	b := build(t, 33, dir, frames)
	want := slices.Clone(b)
	clear(b)
	if !slices.Equal(dir, dirAhead) || !reflect.DeepEqual(frames, framesAhead) || !bytes.Equal(build(t, 33, dir, frames), want) {
		t.Error("frames are changed")
	}
}

// some is an image of three samples, of five frames.
func some(c *chance, size int) ([]byte, []api.Meta) {
	dir := []api.Meta{
		{Name: "a", Length: 20, Rate: 8000, Channels: 1},
		{Name: "b1", Length: 16, Rate: 192000, Channels: 2, Loop: true, LoopStart: 3, LoopEnd: 16},
		{Name: strings.Repeat("b", 32), Length: 1, Rate: 1, Channels: 1},
	}
	return laid(size, dir, c.frames(size, dir))
}

// Promise 15.3, Parse: each byte of a directory changed to each other one, with the sum that was, and with the right one.
func TestParseBytes(t *testing.T) {
	c := chance(6)
	right, _ := some(&c, 24)
	told := map[api.Errno]int{}
	for at := range 20 + 64*3 {
		for v := range 256 {
			b := slices.Clone(right)
			b[at] = byte(v)
			for _, b := range [][]byte{b, mended(b)} {
				dir, want := read(b)
				told[want]++
				if want != api.OK {
					wantParseError(t, b, want)
					continue
				}
				if x, e := bank.Parse(b); e != api.OK || !slices.Equal(x.Dir(), dir) {
					t.Errorf("the byte %d is %x: %v; want %+v", at, v, e, dir)
				}
			}
		}
		if t.Failed() {
			t.Fatal("the byte", at)
		}
	}
	for _, e := range []api.Errno{api.OK, api.ErrForm, api.ErrSize, api.ErrShort, api.ErrSum} {
		if told[e] == 0 {
			t.Error("never told:", e)
		}
	}
}

// Promise 15.3, Parse: two bytes of a directory changed at once have the error of what comes first.
func TestParseTwoBytes(t *testing.T) {
	c := chance(7)
	right, _ := some(&c, 24)
	for range 100000 {
		b := slices.Clone(right)
		for range 2 {
			b[c.below(20+64*3)] = []byte{0, 1, 2, 24, 96, 255, byte(c.below(256)), byte(c.below(256))}[c.below(8)]
		}
		if c.below(4) > 0 {
			b = mended(b)
		}
		_, want := read(b)
		if x, e := bank.Parse(b); e != want || (x == nil) == (e == api.OK) {
			t.Fatalf("Parse(%x) = %v; want %v", b, e, want)
		}
	}
}

// Promise 15.3, Parse: images that end too early, or too late, with the length that was, and with their own.
func TestParseLength(t *testing.T) {
	c := chance(8)
	for _, size := range []int{24, 57, 96} {
		right, _ := some(&c, size)
		for n := range len(right) + 200 {
			b := append(slices.Clone(right), make([]byte, 200)...)[:n]
			if _, want := read(b); want != api.OK {
				wantParseError(t, b, want)
			}
			if n < 20 {
				continue
			}
			binary.BigEndian.PutUint32(b[4:], uint32(n))
			b = mended(b)
			_, want := read(b)
			if (want == api.OK) != (n == len(right)) {
				t.Fatalf("%d bytes of %d: %v", n, len(right), want)
			}
			if want != api.OK {
				wantParseError(t, b, want)
			}
		}
	}
	wantParseError(t, nil, api.ErrShort)
	wantParseError(t, []byte{}, api.ErrShort)
	wantParseError(t, make([]byte, 19), api.ErrShort)
	wantParseError(t, make([]byte, 20), api.ErrForm)
	wantParseError(t, []byte("CAL2"), api.ErrShort)
}

// Promise 15.3, Parse: of several errors the first one.
func TestParseOrder(t *testing.T) {
	c := chance(9)
	right, _ := some(&c, 24)
	faults := []struct {
		spoil func(b []byte) []byte
		want  api.Errno
	}{
		{func(b []byte) []byte { return b[:19] }, api.ErrShort},
		{func(b []byte) []byte { b[15] = 1; return b }, api.ErrForm},
		{func(b []byte) []byte { b[10] = 97; return b }, api.ErrSize},
		{func(b []byte) []byte { b[7] = 128; return b[:128] }, api.ErrShort},
		{func(b []byte) []byte { return b }, api.ErrSum},
		{func(b []byte) []byte { b[16+64+63] = 1; return b }, api.ErrForm},
		{func(b []byte) []byte { b[16+51]++; return b }, api.ErrSize},
	}
	for set := range 1 << len(faults) {
		b, want, sum := slices.Clone(right), api.OK, true
		for k := len(faults) - 1; k >= 0; k-- {
			if set>>k&1 == 1 {
				b, want = faults[k].spoil(b), faults[k].want
				sum = sum && k != 4
			}
		}
		if set>>3&1 == 1 && set&1 == 0 {
			binary.BigEndian.PutUint32(b[4:], uint32(len(b)))
		}
		if len(b) > 20+64*3 {
			if b = mended(b); !sum {
				b[16+64*3] ^= 1
			}
		}
		if _, model := read(b); model != want {
			t.Fatalf("set %x: %v; want %v", set, model, want)
		}
		if want == api.OK {
			parse(t, b)
		} else {
			wantParseError(t, b, want)
		}
	}
}

// Promise 15.3, Parse: an entry that is none is told ahead of a place that is wrong in one ahead of it.
func TestParseFormAheadOfSize(t *testing.T) {
	c := chance(10)
	right, _ := some(&c, 24)
	b := slices.Clone(right)
	b[16+55]++ // First of the first
	wantParseError(t, mended(b), api.ErrSize)
	b[16+128] = 'a' // the third name
	wantParseError(t, mended(b), api.ErrForm)
	b = slices.Clone(right)
	b[16+55]++
	b[16+128+56] = 0 // no channels
	wantParseError(t, mended(b), api.ErrForm)
}

// Promise 15.3, Parse: so many samples and sizes as may be, and more.
func TestParseBounds(t *testing.T) {
	right, _ := laid(24, nil, nil)
	for size := range 256 {
		b := slices.Clone(right)
		b[10] = byte(size)
		if b = mended(b); size >= 24 && size <= 96 {
			parse(t, b)
		} else {
			wantParseError(t, b, api.ErrSize)
		}
	}
	dir, frames := coded(24, many(64))
	b := build(t, 24, dir, frames)
	parse(t, b)
	for _, n := range []int{65, 66, 128, 255, 256, 256 + 64, 1 << 15, 1<<16 - 1} {
		binary.BigEndian.PutUint16(b[8:], uint16(n))
		wantParseError(t, b, api.ErrSize)
	}
	// 65 entries that are ones, and a sum that is right.
	dir, _ = coded(24, many(65))
	b = append(begin(24, 20+65*64+12, dir), make([]byte, 12)...)
	wantParseError(t, b, api.ErrSize)
}

// Promise 15.3, Parse: names that end in the middle, or not at all.
func TestParseNames(t *testing.T) {
	c := chance(11)
	right, _ := some(&c, 24)
	for _, name := range []string{"", "\x00a", "a\x00b", "a\x00" + strings.Repeat("\x00", 29) + "b", "a b", "\x7f", strings.Repeat("a", 31) + " ", "\xff"} {
		b := slices.Clone(right)
		copy(b[16:48], name+strings.Repeat("\x00", 32-len(name)))
		wantParseError(t, mended(b), api.ErrForm)
	}
	for _, name := range []string{"!", "a", "b", strings.Repeat("a", 32), strings.Repeat("a", 31)} {
		b := slices.Clone(right)
		copy(b[16:48], name+strings.Repeat("\x00", 32-len(name)))
		if m, e := parse(t, mended(b)).Meta(0); e != api.OK || m.Name != name {
			t.Errorf("%q: %+v, %v", name, m, e)
		}
	}
}

// Promise 15.3, Parse: numbers of four bytes at and beyond their bounds.
func TestParseNumbers(t *testing.T) {
	c := chance(12)
	right, _ := some(&c, 24)
	values := []uint32{0, 1, 2, 3, 15, 16, 17, 19, 20, 21, 192000, 192001, long, long + 1, 1<<31 - 1, 1 << 31, 1<<32 - 1, 1<<32 - 16}
	for i := range 3 {
		for field := range 6 {
			for _, v := range values {
				b := slices.Clone(right)
				binary.BigEndian.PutUint32(b[16+64*i+32+4*field:], v)
				b = mended(b)
				if _, want := read(b); want != api.OK {
					wantParseError(t, b, want)
				} else {
					parse(t, b)
				}
			}
		}
	}
}

// Promise 15.3, Parse: what stands behind the directory is not looked at.
func TestParseBehind(t *testing.T) {
	c := chance(13)
	for round := range 100 {
		size := 24 + round%73
		dir := c.dir(1+c.below(4), 80)
		b, placed := laid(size, dir, c.frames(size, dir))
		copy(b[20+64*len(dir):], c.bytes(len(b)))
		wantBank(t, parse(t, b), model{size, placed, b})
		for i := range placed {
			x := parse(t, b)
			if count := bank.Frames(placed[i]); len(x.Bad(i)) != count {
				t.Errorf("%d of %d frames are bad", len(x.Bad(i)), count)
			}
		}
	}
}

// Promise 15.3, Parse: it names no greatest length, as Pack and Build do.
func TestParseGreat(t *testing.T) {
	dir := []api.Meta{{Name: "a", Length: long, Rate: 1, Channels: 2}}
	f, e := frame.Bytes(api.Frame{}, 96)
	if e != api.OK {
		t.Fatal(e)
	}
	b, _ := laid(96, dir, alike(131072, f))
	x := parse(t, b)
	if at, sum, e := x.Where(0, 1, 65535); at != 20+64+131072*4+12+131071*96 || sum != crc32.ChecksumIEEE(f) || e != api.OK {
		t.Error(at, sum, e)
	}
	if l, e := x.Whole(0, 1); len(l) != long || e != api.OK {
		t.Error(len(l), e)
	}
}

// Promise 15.3, and rule R1: any bytes, and images with any bytes changed, are parsed as the chapter says, and all calls end.
func TestParseAny(t *testing.T) {
	c := chance(14)
	for round := range 20000 {
		var b []byte
		if round%4 == 0 {
			b = c.bytes(c.below(200))
			if c.below(2) == 0 && len(b) > 4 {
				copy(b, "CAL1")
			}
		} else {
			dir := c.dir(c.below(3), 40)
			b, _ = laid(24, dir, c.frames(24, dir))
			for range c.below(4) {
				b[c.below(len(b))] = byte(c.below(256))
			}
			if c.below(2) == 0 {
				b = mended(b)
			}
		}
		dir, want := read(b)
		x, e := bank.Parse(b)
		if e != want || (x == nil) == (e == api.OK) {
			t.Fatalf("Parse(%x) = %v; want %v", b, e, want)
		}
		if e == api.OK {
			wantBank(t, x, model{int(b[10]), dir, b})
		}
	}
}

// Promise 15.4, Find: each name, and names about it.
func TestFind(t *testing.T) {
	c := chance(15)
	for range 60 {
		dir := c.dir(c.below(20), 20)
		b, _ := laid(24, dir, c.frames(24, dir))
		x := parse(t, b)
		names := []string{"", " ", "\x00", "\xff", "a b", letters, strings.Repeat("~", 33), c.name(1), c.name(32)}
		for _, m := range dir {
			last := m.Name[len(m.Name)-1]
			head := m.Name[:len(m.Name)-1]
			names = append(names, m.Name, head, m.Name+"!", m.Name+"\x00", head+string(rune(last-1)), head+string(rune(last+1)), head+" ~")
		}
		for _, name := range names {
			want, ok := 0, false
			for _, m := range dir {
				if m.Name < name {
					want++
				}
				ok = ok || m.Name == name
			}
			if got, found := x.Find(name); got != want || found != ok {
				t.Errorf("Find(%q) = %d, %t; want %d, %t", name, got, found, want, ok)
			}
		}
	}
}

// Promise 15.4: samples, channels and blocks that there are not.
func TestRange(t *testing.T) {
	c := chance(16)
	for _, n := range []int{0, 1, 3, 64} {
		dir := c.dir(n, 50)
		b, _ := laid(24, dir, c.frames(24, dir))
		x := parse(t, b)
		for _, i := range append(far(), n, n+1) {
			wantNone(t, x, i, api.ErrNone)
		}
		if n == 64 {
			continue
		}
		for i, m := range dir {
			for _, channel := range append(far(), m.Channels, m.Channels+1) {
				wantNothing(t, x, i, channel, 0, api.ErrRange)
				if l, e := x.Whole(i, channel); len(l) != 0 || e != api.ErrRange {
					t.Errorf("Whole(%d, %d) = %d, %v", i, channel, l, e)
				}
			}
			for _, block := range append(far(), blocks(m.Length), blocks(m.Length)+1, blocks(m.Length)*m.Channels, 1<<63-math.MaxInt/2) {
				if block >= 0 && block < blocks(m.Length) {
					continue
				}
				for channel := range m.Channels {
					wantNothing(t, x, i, channel, block, api.ErrRange)
				}
			}
		}
	}
}

// Promise 15.4, Open: bytes of other frames, with one bit turned, cut, and with more behind.
func TestOpen(t *testing.T) {
	c := chance(17)
	b, _ := some(&c, 24)
	x := parse(t, b)
	var l [][]byte
	for i, m := range x.Dir() {
		for block := range blocks(m.Length) {
			for channel := range m.Channels {
				own, _ := x.Bytes(i, channel, block)
				for bit := range 8 * 24 {
					turned := slices.Clone(own)
					turned[bit/8] ^= 1 << (bit % 8)
					l = append(l, turned)
				}
				l = append(l, own, own[:23], append(slices.Clone(own), 0), own[1:], nil, make([]byte, 24), cut(24), c.bytes(24))
			}
		}
	}
	good := 0
	for i, m := range x.Dir() {
		for block := range blocks(m.Length) {
			for channel := range m.Channels {
				_, sum, _ := x.Where(i, channel, block)
				for _, b := range l {
					want, why := opened(b, sum)
					if got, e := x.Open(i, channel, block, b); e != why || !reflect.DeepEqual(got, want) {
						t.Errorf("Open(%d, %d, %d, %x) = %+v, %v; want %+v, %v", i, channel, block, b, got, e, want, why)
					}
					if why == api.OK {
						good++
					}
				}
			}
		}
	}
	if good == 0 {
		t.Error("no frame is good")
	}
}

// Promise 15.4: bytes whose sum is right, and that are no frame, are ErrForm, be they wrong or end too early; a wrong sum is told first.
func TestForm(t *testing.T) {
	if _, e := frame.Read(cut(24)); e != api.ErrShort {
		t.Fatal(e)
	}
	wrong := [][]byte{make([]byte, 24), cut(24), append([]byte{0x40}, bytes.Repeat([]byte{1}, 23)...), bytes.Repeat([]byte{255}, 24)}
	dir, right := coded(24, []api.Sample{plain("a", 40, 40)})
	for at := range right {
		for _, b := range wrong {
			frames := slices.Clone(right)
			frames[at] = b
			x := parse(t, build(t, 24, dir, frames))
			if f, e := x.Open(0, at%2, at/2, b); e != api.ErrForm || !reflect.DeepEqual(f, api.Frame{}) {
				t.Errorf("Open of %x = %+v, %v", b, f, e)
			}
			if bad := x.Bad(0); !slices.Equal(bad, []int{at}) {
				t.Errorf("Bad = %d; want %d", bad, at)
			}
			if l, e := x.Whole(0, at%2); e != api.ErrForm || len(l) != 0 {
				t.Errorf("Whole = %d, %v", l, e)
			}
			if l, e := x.Whole(0, 1-at%2); e != api.OK || len(l) != 40 {
				t.Errorf("Whole of the other channel = %d, %v", l, e)
			}
			if s, e := x.Unpack(0); e != api.ErrForm || s.Data != nil {
				t.Errorf("Unpack = %v, %v", s, e)
			}
			if f, e := x.Open(0, at%2, at/2, right[at]); e != api.ErrSum || !reflect.DeepEqual(f, api.Frame{}) {
				t.Errorf("Open of the right one = %+v, %v", f, e)
			}
		}
	}
}

// Promise 15.4: the first frame's error of a channel, and the first channel's of a sample.
func TestFirstError(t *testing.T) {
	dir, right := coded(24, []api.Sample{plain("a", 48, 48)})
	for sums := range 1 << 6 {
		for forms := range 1 << 6 {
			if sums&forms != 0 {
				continue
			}
			frames := slices.Clone(right)
			for at := range frames {
				if forms>>at&1 == 1 {
					frames[at] = make([]byte, 24)
				}
			}
			b := build(t, 24, dir, frames)
			for at := range frames {
				if sums>>at&1 == 1 {
					b[bank.Dir(1)+4*at+at%4] ^= 64
				}
			}
			x := parse(t, b)
			wantBank(t, x, model{24, x.Dir(), b})
		}
	}
}

// Promise 15.4, Bad: each byte of a frame spoilt, and each byte of its sum.
func TestBad(t *testing.T) {
	c := chance(18)
	l := c.list(c.dir(3, 60))
	right := pack(t, 26, l...)
	x := parse(t, right)
	for at := bank.Dir(3); at < len(right); at++ {
		b := slices.Clone(right)
		b[at] ^= byte(1 << c.below(8))
		y := parse(t, b)
		for i, m := range x.Dir() {
			var want []int
			count := bank.Frames(m)
			if at >= m.Sums && at < m.Sums+4*count {
				want = []int{(at - m.Sums) / 4}
			}
			if at >= m.First && at < m.First+26*count {
				want = []int{(at - m.First) / 26}
			}
			if got := y.Bad(i); !slices.Equal(got, want) {
				t.Fatalf("the byte %d is spoilt: Bad(%d) = %d; want %d", at, i, got, want)
			}
		}
	}
}

// Rule R3: a bank keeps nothing of what is handed in, and what it answers is new.
func TestBankKeeps(t *testing.T) {
	c := chance(19)
	l := c.list(c.dir(4, 60))
	b := pack(t, 25, l...)
	image := slices.Clone(b)
	x := parse(t, b)
	if !bytes.Equal(b, image) {
		t.Fatal("Parse changes its image")
	}
	clear(b)
	o := model{25, x.Dir(), image}
	wantBank(t, x, o)
	clear(x.Image())
	clear(x.Dir())
	for i, m := range o.dir {
		for channel := range m.Channels {
			own, _ := x.Bytes(i, channel, 0)
			told := slices.Clone(own)
			f, e := x.Open(i, channel, 0, own)
			if e != api.OK || !bytes.Equal(own, told) {
				t.Fatal(e)
			}
			clear(f.Tones)
			clear(own)
			samples, _ := x.Whole(i, channel)
			clear(samples)
		}
		s, _ := x.Unpack(i)
		for _, samples := range s.Data {
			clear(samples)
		}
		clear(s.Data)
	}
	wantBank(t, x, o)
}

// Promise 15.5: banks that there are not.
func TestUnmade(t *testing.T) {
	for _, x := range []*bank.Bank{nil, {}, new(bank.Bank)} {
		if x.Size() != 0 || len(x.Dir()) != 0 || len(x.Image()) != 0 {
			t.Error(x.Size(), x.Dir(), x.Image())
		}
		for _, name := range []string{"", "a", "~"} {
			if i, ok := x.Find(name); i != 0 || ok {
				t.Error(i, ok)
			}
		}
		for _, i := range append(far(), 0, 1) {
			wantNone(t, x, i, api.ErrState)
		}
	}
}

// Promise 15.6: what is packed is parsed with the same Metas; in 55 bytes and more it is unpacked as it was, in fewer as its frames say.
func TestPackAndUnpack(t *testing.T) {
	c := chance(20)
	for _, size := range sizes() {
		coder, e := code.New(size)
		if e != api.OK {
			t.Fatal(e)
		}
		l := c.list(c.dir(3, 200))
		x := parse(t, pack(t, size, c.shuffled(l)...))
		for i, s := range l {
			m, _ := x.Meta(i)
			if want := (api.Meta{Name: s.Name, Length: len(s.Data[0]), Rate: s.Rate, Channels: len(s.Data), Loop: s.Loop, LoopStart: s.LoopStart, LoopEnd: s.LoopEnd, Sums: m.Sums, First: m.First}); m != want {
				t.Errorf("%+v; want %+v", m, want)
			}
			if bad := x.Bad(i); len(bad) != 0 {
				t.Errorf("size %d: bad: %d", size, bad)
			}
			want := s
			if size < 55 {
				want.Data = nil
				for _, samples := range s.Data {
					f, e := coder.Frames(samples)
					if e != api.OK {
						t.Fatal(e)
					}
					want.Data = append(want.Data, coder.Samples(f, len(samples)))
				}
			}
			if got, e := x.Unpack(i); e != api.OK || !reflect.DeepEqual(got, want) {
				t.Errorf("size %d: %+v, %v; want %+v", size, got, e, want)
			}
		}
	}
}

// Promise 15.6: the greatest sample that may be, in both channels, is unpacked as it was.
func TestUnpackLong(t *testing.T) {
	c := chance(21)
	s := plain("long", 0, 0)
	for i := range s.Data {
		s.Data[i] = c.samples(300000)
	}
	got, e := parse(t, pack(t, 55, s)).Unpack(0)
	if e != api.OK || !reflect.DeepEqual(got, s) {
		t.Error(e)
	}
}

// Promise 15.6: what is parsed, and built anew of its frames, is as it was, but for bytes that nobody looks at.
func TestBuildAgain(t *testing.T) {
	c := chance(22)
	for round := range 100 {
		size := 24 + round%73
		dir := c.dir(c.below(5), 90)
		want, placed := laid(size, dir, c.frames(size, dir))
		b := slices.Clone(want)
		// Bytes that nobody looks at: what lies between sums and frames, and at the end.
		at := len(b)
		for i := len(placed) - 1; i >= 0; i-- {
			m := placed[i]
			for k := m.First + size*bank.Frames(m); k < at; k++ {
				b[k] = byte(c.below(256))
			}
			for k := m.Sums + 4*bank.Frames(m); k < m.First; k++ {
				b[k] = byte(c.below(256))
			}
			at = m.Sums
		}
		x := parse(t, b)
		var frames [][]byte
		for i, m := range x.Dir() {
			for block := range blocks(m.Length) {
				for channel := range m.Channels {
					own, e := x.Bytes(i, channel, block)
					if e != api.OK {
						t.Fatal(e)
					}
					frames = append(frames, own)
				}
			}
		}
		if got := build(t, x.Size(), x.Dir(), frames); !bytes.Equal(got, want) {
			t.Fatalf("built anew: %x; want %x", got, want)
		}
	}
}

// Rule R1: sizes, samples, directories and frames of any kind have an end.
func TestAnyEnd(t *testing.T) {
	c := chance(23)
	any := append(far(), 0, 1, 2, 17, 192000, 192001, long, long+1)
	for range 3000 {
		size := append(wrongSizes(), sizes()...)[c.below(100)]
		dir := c.dir(c.below(4), 40)
		frames := c.frames(24, dir)
		for i := range dir {
			m := &dir[i]
			for _, field := range []*int{&m.Length, &m.Rate, &m.Channels, &m.LoopStart, &m.LoopEnd, &m.Sums, &m.First} {
				if c.below(6) == 0 {
					*field = any[c.below(len(any))]
				}
			}
		}
		if b, e := bank.Build(size, dir, frames); e != api.OK && len(b) != 0 {
			t.Error(len(b), e)
		}
		var l []api.Sample
		for _, m := range dir {
			l = append(l, api.Sample{Name: m.Name, Rate: m.Rate, Loop: m.Loop, LoopStart: m.LoopStart, LoopEnd: m.LoopEnd, Data: [][]int{c.samples(c.below(20))}})
		}
		if b, e := bank.Pack(size, l...); e != api.OK && len(b) != 0 {
			t.Error(len(b), e)
		}
	}
}
