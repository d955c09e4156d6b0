package frame_test

import (
	"bytes"
	"math"
	"math/big"
	"slices"
	"strings"
	"testing"

	"calliope/api"
	"calliope/frame"
)

const (
	least = math.MinInt64
	most  = math.MaxInt64
)

// chance is a row of numbers that look like chance, and are the same in each run.
type chance uint64

func (c *chance) next() uint64 {
	*c = *c*6364136223846793005 + 1442695040888963407
	x := uint64(*c)
	return x ^ x>>29
}

func (c *chance) below(n int) int {
	return int(c.next() >> 33 % uint64(n))
}

// signed is a number that fits so many bits, its ends among them.
func (c *chance) signed(width int) int64 {
	if width == 0 {
		return 0
	}
	half := int64(1) << (width - 1)
	switch c.below(6) {
	case 0:
		return -half
	case 1:
		return half - 1
	case 2:
		return 0
	}
	return int64(c.next()>>1%uint64(2*half)) - half
}

// tones are so many, at rising places.
func (c *chance) tones(n int) []api.Tone {
	var l []api.Tone
	place := 0
	for k := range n {
		place += c.below(16 - place - (n - k - 1))
		l = append(l, api.Tone{Index: place, Value: c.signed(24)})
		place++
	}
	return l
}

// frame is one that may be.
func (c *chance) frame() api.Frame {
	f := api.Frame{Tones: c.tones(c.below(3))}
	for k := range 4 {
		f.Gains[k], f.Scale[k], f.Width[k] = c.below(4), c.below(24), c.below(25)
	}
	for i := range f.Q {
		f.Q[i] = c.signed(f.Width[i/4])
	}
	return f
}

// full is one with all that may be: two tones, and steps in each band.
func full() api.Frame {
	return api.Frame{
		Gains: [4]int{3, 0, 2, 1},
		Tones: []api.Tone{{Index: 2, Value: -8388608}, {Index: 9, Value: 8388607}},
		Scale: [4]int{23, 0, 7, 1},
		Width: [4]int{24, 1, 3, 10},
		Q:     api.Block{-8388608, 8388607, 0, 1, -1, 0, 0, -1, -4, 3, 0, 1, 511, -512, 7, 0},
	}
}

// digits are a number's lowest k bits as noughts and ones, by another way than the program's.
func digits(v int64, k int) string {
	if k == 0 {
		return ""
	}
	m := new(big.Int).Lsh(big.NewInt(1), uint(k))
	m.Mod(big.NewInt(v), m)
	s := m.Text(2)
	return strings.Repeat("0", k-len(s)) + s
}

// laid are a frame's bits, as the chapter names them, one behind the other.
func laid(f api.Frame) string {
	s := "01"
	for _, g := range f.Gains {
		s += digits(int64(g), 2)
	}
	s += digits(int64(len(f.Tones)), 2)
	for _, t := range f.Tones {
		s += digits(int64(t.Index), 4) + digits(t.Value, 24)
	}
	for k := range 4 {
		s += digits(int64(f.Scale[k]), 5) + digits(int64(f.Width[k]), 5)
	}
	for i, v := range f.Q {
		s += digits(v, f.Width[i/4])
	}
	return s
}

// filled are noughts and ones as bytes, with noughts up to so many of them.
func filled(s string, size int) []byte {
	s += strings.Repeat("0", 8*size-len(s))
	out := []byte{}
	for i := 0; i < len(s); i += 8 {
		v, _ := new(big.Int).SetString(s[i:i+8], 2)
		out = append(out, byte(v.Int64()))
	}
	return out
}

// unfilled are bytes as noughts and ones.
func unfilled(b []byte) string {
	s := ""
	for _, v := range b {
		s += digits(int64(v), 8)
	}
	return s
}

// size is how many bytes so many bits fill.
func size(s string) int {
	return (len(s) + 7) / 8
}

// taken reads noughts and ones; what is wrong, or missing, is told as it is met.
type taken struct {
	s   string
	err api.Errno
}

func (x *taken) take(k int, signed bool) int64 {
	if x.err == api.OK && len(x.s) < k {
		x.err = api.ErrShort
	}
	if x.err != api.OK || k == 0 {
		return 0
	}
	v, _ := new(big.Int).SetString(x.s[:k], 2)
	if signed && x.s[0] == '1' {
		v.Sub(v, new(big.Int).Lsh(big.NewInt(1), uint(k)))
	}
	x.s = x.s[k:]
	return v.Int64()
}

func (x *taken) want(right bool) {
	if x.err == api.OK && !right {
		x.err = api.ErrForm
	}
}

// parsed is the frame that bytes are, by the chapter's words and another way than the program's.
func parsed(b []byte) (api.Frame, api.Errno) {
	f, x := api.Frame{}, &taken{s: unfilled(b)}
	x.want(x.take(2, false) == 1 || x.err != api.OK)
	for k := range 4 {
		f.Gains[k] = int(x.take(2, false))
	}
	n, last := x.take(2, false), int64(-1)
	x.want(n <= 2)
	for k := int64(0); k < n && x.err == api.OK; k++ {
		place := x.take(4, false)
		x.want(place > last)
		last = place
		f.Tones = append(f.Tones, api.Tone{Index: int(place), Value: x.take(24, true)})
	}
	for k := range 4 {
		f.Scale[k] = int(x.take(5, false))
		x.want(f.Scale[k] <= 23)
		f.Width[k] = int(x.take(5, false))
		x.want(f.Width[k] <= 24)
	}
	for i := 0; i < 16 && x.err == api.OK; i++ {
		f.Q[i] = x.take(f.Width[i/4], true)
	}
	x.want(!strings.Contains(x.s, "1"))
	if x.err != api.OK {
		return api.Frame{}, x.err
	}
	return f, api.OK
}

// alike tells whether two frames are one, by another way than the program's.
func alike(a, b api.Frame) bool {
	if len(a.Tones) != len(b.Tones) {
		return false
	}
	for k, t := range a.Tones {
		if t.Index != b.Tones[k].Index || t.Value != b.Tones[k].Value {
			return false
		}
	}
	for i := range 16 {
		if a.Q[i] != b.Q[i] || a.Gains[i/4] != b.Gains[i/4] || a.Scale[i/4] != b.Scale[i/4] || a.Width[i/4] != b.Width[i/4] {
			return false
		}
	}
	return true
}

func wantBytes(t *testing.T, f api.Frame, size int, want []byte, wantErr api.Errno) {
	t.Helper()
	if got, e := frame.Bytes(f, size); e != wantErr || !bytes.Equal(got, want) {
		t.Errorf("Bytes(%v, %d) = %x, %v; want %x, %v", f, size, got, e, want, wantErr)
	}
}

func wantRead(t *testing.T, b []byte, want api.Frame, wantErr api.Errno) {
	t.Helper()
	if got, e := frame.Read(b); e != wantErr || !alike(got, want) {
		t.Errorf("Read(%x) = %v, %v; want %v, %v", b, got, e, want, wantErr)
	}
}

// wantRight holds that a frame may be: Right tells it, Bytes lays it, and Read reads it again.
func wantRight(t *testing.T, f api.Frame) {
	t.Helper()
	if !frame.Right(f) {
		t.Errorf("Right(%v) = false", f)
	}
	s := laid(f)
	if got := frame.Bits(f); got != len(s) {
		t.Errorf("Bits(%v) = %d; want %d", f, got, len(s))
	}
	b := filled(s, size(s))
	wantBytes(t, f, size(s), b, api.OK)
	wantRead(t, b, f, api.OK)
}

// wantWrong holds that a frame may not be, whatever size it is asked for.
func wantWrong(t *testing.T, f api.Frame) {
	t.Helper()
	if frame.Right(f) {
		t.Errorf("Right(%v) = true", f)
	}
	for _, size := range []int{-1, 0, 6, 24, 96, 1 << 10, math.MinInt, math.MaxInt} {
		wantBytes(t, f, size, nil, api.ErrForm)
	}
}

// beyond are numbers below 0, and at and above a bound.
func beyond(bound int) []int {
	return []int{-1, -2, -bound, bound, bound + 1, 31, 32, 64, 256, 1 << 32, math.MinInt, math.MaxInt}
}

func TestConstants(t *testing.T) {
	if frame.Head != 52 || frame.Each != 28 {
		t.Error(frame.Head, frame.Each)
	}
}

// The example of the chapter, and a frame whose bytes are worked out by hand.
func TestKnownBytes(t *testing.T) {
	if got := frame.Bits(api.Frame{}); got != 52 {
		t.Errorf("Bits of noughts: %d", got)
	}
	for _, n := range []int{7, 8, 24, 55, 96} {
		b := make([]byte, n)
		b[0] = 0x40
		wantBytes(t, api.Frame{}, n, b, api.OK)
		wantRead(t, b, api.Frame{}, api.OK)
	}
	f := api.Frame{
		Gains: [4]int{1, 2, 3, 0},
		Tones: []api.Tone{{Index: 3, Value: -2}},
		Scale: [4]int{2, 0, 0, 23},
		Width: [4]int{3, 0, 0, 1},
		Q:     api.Block{3, -4, 0, 1, 12: -1, 15: -1},
	}
	// 01 01 10 11, 00 01 0011, and 24 bits of -2; 00010 000, 11 00000 0, 0000 0000, 0 00000 10, 111 00001; 011 100 00, 0 001 1 0 0 1.
	b := []byte{0x5b, 0x13, 0xff, 0xff, 0xfe, 0x10, 0xc0, 0x00, 0x02, 0xe1, 0x70, 0x19}
	if len(laid(f)) != 52+28+12+4 || frame.Bits(f) != 96 {
		t.Errorf("%d bits", frame.Bits(f))
	}
	wantBytes(t, f, 12, b, api.OK)
	wantBytes(t, f, 14, append(slices.Clone(b), 0, 0), api.OK)
	wantBytes(t, f, 11, nil, api.ErrLong)
	wantRead(t, b, f, api.OK)
}

// Promise 10.1: all gains that may be, and wrong ones at each place.
func TestGains(t *testing.T) {
	for n := range 256 {
		f := full()
		f.Gains = [4]int{n & 3, n >> 2 & 3, n >> 4 & 3, n >> 6}
		wantRight(t, f)
	}
	for _, g := range beyond(4) {
		for k := range 4 {
			f, alone := full(), api.Frame{}
			f.Gains[k], alone.Gains[k] = g, g
			wantWrong(t, f)
			wantWrong(t, alone)
		}
	}
}

// Promise 10.1: tones at each one and each two places, in each order; their places rise.
func TestPlaces(t *testing.T) {
	for a := range 16 {
		wantRight(t, api.Frame{Tones: []api.Tone{{Index: a, Value: 5}}})
		for b := range 16 {
			f := api.Frame{Tones: []api.Tone{{Index: a, Value: -5}, {Index: b, Value: 6}}}
			if a < b {
				wantRight(t, f)
			} else {
				wantWrong(t, f)
			}
		}
	}
	for _, place := range beyond(16) {
		wantWrong(t, api.Frame{Tones: []api.Tone{{Index: place, Value: 1}}})
		wantWrong(t, api.Frame{Tones: []api.Tone{{Index: place, Value: 1}, {Index: 15, Value: 1}}})
		wantWrong(t, api.Frame{Tones: []api.Tone{{Index: 0, Value: 1}, {Index: place, Value: 1}}})
		wantWrong(t, api.Frame{Tones: []api.Tone{{Index: place, Value: 1}, {Index: place, Value: 1}}})
	}
}

// Promise 10.1: at most two tones.
func TestHowManyTones(t *testing.T) {
	wantRight(t, api.Frame{Tones: []api.Tone{}})
	wantRight(t, api.Frame{Tones: []api.Tone{{}}})
	for n := 3; n <= 17; n++ {
		f := full()
		f.Tones = nil
		for k := range n {
			f.Tones = append(f.Tones, api.Tone{Index: k, Value: int64(k)})
		}
		wantWrong(t, f)
	}
}

// Promise 10.1: a tone's value fits 24 bits, whichever tone it is.
func TestToneValues(t *testing.T) {
	for _, v := range []int64{0, 1, -1, 64, -64, 1<<23 - 1, -1 << 23, 1<<23 - 2, -1<<23 + 1, 0x2aaaaa} {
		wantRight(t, api.Frame{Tones: []api.Tone{{Index: 7, Value: v}}})
		wantRight(t, api.Frame{Tones: []api.Tone{{Index: 7, Value: v}, {Index: 8, Value: -1}}})
		wantRight(t, api.Frame{Tones: []api.Tone{{Index: 7, Value: -1}, {Index: 8, Value: v}}})
	}
	for _, v := range []int64{1 << 23, -1<<23 - 1, 1 << 24, -1 << 24, 1 << 32, 1 << 40, -1 << 40, most, least} {
		wantWrong(t, api.Frame{Tones: []api.Tone{{Index: 7, Value: v}}})
		wantWrong(t, api.Frame{Tones: []api.Tone{{Index: 7, Value: v}, {Index: 8, Value: -1}}})
		wantWrong(t, api.Frame{Tones: []api.Tone{{Index: 7, Value: -1}, {Index: 8, Value: v}}})
	}
}

// Promise 10.1: each scale in each band, and wrong ones.
func TestScales(t *testing.T) {
	for k := range 4 {
		for scale := range 24 {
			f := full()
			f.Scale[k] = scale
			wantRight(t, f)
		}
		for _, scale := range beyond(24) {
			f, alone := full(), api.Frame{}
			f.Scale[k], alone.Scale[k] = scale, scale
			wantWrong(t, f)
			wantWrong(t, alone)
		}
	}
}

// Promise 10.1: each width in each band, with steps that just fit it, or just don't, at each place; of no width just 0.
func TestWidths(t *testing.T) {
	for width := range 25 {
		for i := range 16 {
			f := api.Frame{Gains: [4]int{0, 1, 2, 3}, Scale: [4]int{1, 2, 3, 4}}
			f.Width[i/4] = width
			wantRight(t, f)
			high, low := int64(0), int64(0)
			if width > 0 {
				high, low = 1<<(width-1)-1, -1<<(width-1)
			}
			for _, v := range []int64{high, low} {
				f.Q[i] = v
				wantRight(t, f)
			}
			for _, v := range []int64{high + 1, low - 1, high + 1<<24, low - 1<<32, least, most} {
				f.Q[i] = v
				wantWrong(t, f)
			}
		}
	}
}

// Promise 10.1: widths may be greater than steps need, and no others may be than 0 to 24, whatever the steps.
func TestWrongWidths(t *testing.T) {
	wantRight(t, api.Frame{Width: [4]int{24, 24, 24, 24}, Q: api.Block{1, -1}})
	wantRight(t, api.Frame{Width: [4]int{1, 24, 0, 5}})
	for _, width := range beyond(25) {
		for k := range 4 {
			f, alone := full(), api.Frame{}
			f.Width[k], alone.Width[k] = width, width
			wantWrong(t, f)
			wantWrong(t, alone)
		}
	}
}

// Promise 10.1, Bits: four times each band's width, and the most that a frame may need.
func TestBits(t *testing.T) {
	f := full()
	if got := frame.Bits(f); got != 52+2*28+4*(24+1+3+10) {
		t.Errorf("Bits = %d", got)
	}
	f.Tones = f.Tones[:1]
	if got := frame.Bits(f); got != 52+28+4*(24+1+3+10) {
		t.Errorf("Bits = %d", got)
	}
	f = api.Frame{Width: [4]int{24, 24, 24, 24}}
	if got := frame.Bits(f); got != 436 {
		t.Errorf("Bits = %d", got)
	}
	wantBytes(t, f, 54, nil, api.ErrLong)
	if _, e := frame.Bytes(f, api.Lossless); e != api.OK {
		t.Error(e)
	}
	for k, want := range []int{56, 60, 64, 68} {
		f := api.Frame{}
		for band := range k + 1 {
			f.Width[band] = 1
		}
		if got := frame.Bits(f); got != want {
			t.Errorf("Bits(%v) = %d; want %d", f, got, want)
		}
	}
}

// Bits of frames that may not be: by the same count, for they are what a search begins with.
func TestBitsOfOthers(t *testing.T) {
	f := api.Frame{Gains: [4]int{9}, Scale: [4]int{99}, Width: [4]int{41, 41, 25, 0}, Tones: make([]api.Tone, 3)}
	if got := frame.Bits(f); got != 52+3*28+4*107 {
		t.Errorf("Bits = %d", got)
	}
	f = api.Frame{Tones: []api.Tone{{Index: 99, Value: most}}, Q: api.Block{most, least}}
	if got := frame.Bits(f); got != 52+28 {
		t.Errorf("Bits = %d", got)
	}
}

// Promise 10.1, Bytes: each size below and above what a frame needs, and those that are none.
func TestSizes(t *testing.T) {
	c := chance(1)
	for range 300 {
		f := c.frame()
		s := laid(f)
		for n := 0; n <= 99; n++ {
			if n < size(s) {
				wantBytes(t, f, n, nil, api.ErrLong)
			} else {
				wantBytes(t, f, n, filled(s, n), api.OK)
			}
		}
		for _, n := range []int{-1, -7, -24, -1 << 32, math.MinInt} {
			wantBytes(t, f, n, nil, api.ErrArg)
		}
	}
}

// Promise 10.1, Bytes: a frame that needs whole bytes, and one that needs half a byte more.
func TestSizesAtBytes(t *testing.T) {
	f := api.Frame{Width: [4]int{1, 2, 0, 0}, Q: api.Block{-1, 0, 0, -1, 1, -2, 0, 1}}
	for _, x := range []struct{ last, bits, size int }{{0, 64, 8}, {1, 68, 9}, {2, 72, 9}, {3, 76, 10}} {
		f.Width[3] = x.last
		s := laid(f)
		if got := frame.Bits(f); got != x.bits || len(s) != x.bits {
			t.Errorf("Bits(%v) = %d; want %d", f, got, x.bits)
		}
		wantBytes(t, f, x.size-1, nil, api.ErrLong)
		wantBytes(t, f, x.size, filled(s, x.size), api.OK)
	}
}

// Promise 10.2, Read: ErrShort of bytes that end ahead of the frame's last bit, wherever.
func TestReadShort(t *testing.T) {
	wantRead(t, nil, api.Frame{}, api.ErrShort)
	wantRead(t, []byte{}, api.Frame{}, api.ErrShort)
	wantRead(t, []byte{0x40}, api.Frame{}, api.ErrShort)
	wantRead(t, []byte{0x40, 0, 0, 0, 0, 0}, api.Frame{}, api.ErrShort)
	c := chance(3)
	for range 300 {
		f := c.frame()
		s := laid(f)
		b := filled(s, size(s))
		for n := range b {
			wantRead(t, b[:n], api.Frame{}, api.ErrShort)
		}
	}
}

// Promise 10.2, Read: ErrForm of bytes behind whose frame one bit is not 0, wherever.
func TestReadBehind(t *testing.T) {
	c := chance(4)
	for range 60 {
		f := c.frame()
		s := laid(f)
		n := size(s) + 3
		for at := len(s); at < 8*n; at++ {
			b := filled(s, n)
			b[at/8] |= 0x80 >> (at % 8)
			wantRead(t, b, api.Frame{}, api.ErrForm)
		}
	}
}

// Promise 10.2, Read: ErrForm of a field that no frame has, be it that bytes are missing behind it, or not.
func TestReadWrong(t *testing.T) {
	tone := func(place int) string { return digits(int64(place), 4) + digits(77, 24) }
	begin := "01" + "00011011"
	wrong := []string{"00", "10", "11", begin + "11"}
	for a := range 16 {
		for b := range a + 1 {
			wrong = append(wrong, begin+"10"+tone(a)+digits(int64(b), 4))
		}
	}
	right := digits(23, 5) + digits(24, 5)
	for k := range 4 {
		ahead := begin + "01" + tone(4) + strings.Repeat(right, k)
		for v := int64(24); v < 32; v++ {
			wrong = append(wrong, ahead+digits(v, 5))
		}
		for v := int64(25); v < 32; v++ {
			wrong = append(wrong, ahead+digits(3, 5)+digits(v, 5))
		}
	}
	for _, s := range wrong {
		for _, n := range []int{size(s), size(s) + 1, size(s) + 9, 96} {
			wantRead(t, filled(s, n), api.Frame{}, api.ErrForm)
			wantRead(t, filled(s+strings.Repeat("1", 8*n-len(s)), n), api.Frame{}, api.ErrForm)
		}
	}
}

// Promise 10.2, Read: noughts and ones, and no frame at all.
func TestReadNone(t *testing.T) {
	for n := 1; n <= 96; n++ {
		wantRead(t, make([]byte, n), api.Frame{}, api.ErrForm)
		wantRead(t, bytes.Repeat([]byte{0xff}, n), api.Frame{}, api.ErrForm)
	}
}

// Promise 10.2, Read: any bytes, with a right beginning more often than not, against the chapter's words.
func TestReadAny(t *testing.T) {
	c := chance(5)
	met := map[api.Errno]int{}
	for range 30000 {
		b := make([]byte, c.below(80))
		for i := range b {
			b[i] = byte(c.next() >> 20)
		}
		if len(b) > 0 && c.below(8) > 0 {
			b[0] = b[0]&0x3f | 0x40
		}
		if cut := 2 + c.below(30); cut < len(b) {
			clear(b[cut:])
		}
		want, e := parsed(b)
		met[e]++
		wantRead(t, b, want, e)
		wantLaidAgain(t, b)
	}
	if len(met) != 3 || met[api.OK] < 500 || met[api.ErrForm] < 500 || met[api.ErrShort] < 500 {
		t.Error(met)
	}
}

// wantLaidAgain holds that bytes that are a frame's are just those that it has.
func wantLaidAgain(t *testing.T, b []byte) {
	t.Helper()
	f, e := frame.Read(b)
	if e != api.OK {
		return
	}
	if !frame.Right(f) {
		t.Errorf("Read(%x) = %v, which may not be", b, f)
	}
	wantBytes(t, f, len(b), b, api.OK)
}

// Promise 10.2, Read: a frame's bytes with one bit turned are another frame, or none.
func TestReadTurned(t *testing.T) {
	c := chance(6)
	for range 60 {
		f := c.frame()
		s := laid(f)
		n := size(s) + 2
		for at := range 8 * n {
			b := filled(s, n)
			b[at/8] ^= 0x80 >> (at % 8)
			want, e := parsed(b)
			wantRead(t, b, want, e)
			if got, e := frame.Read(b); e == api.OK && frame.Same(f, got) {
				t.Errorf("bit %d of %v tells nothing", at, f)
			}
			wantLaidAgain(t, b)
		}
	}
}

// others are frames that are unlike full in one number alone, or in how many tones there are.
func others() []api.Frame {
	var l []api.Frame
	other := func(change func(f *api.Frame)) {
		f := full()
		change(&f)
		l = append(l, f)
	}
	for k := range 4 {
		other(func(f *api.Frame) { f.Gains[k]++ })
		other(func(f *api.Frame) { f.Scale[k]-- })
		other(func(f *api.Frame) { f.Width[k] += 1 << 32 })
	}
	for i := range 16 {
		other(func(f *api.Frame) { f.Q[i]++ })
		other(func(f *api.Frame) { f.Q[i] += 1 << 32 })
	}
	for k := range 2 {
		other(func(f *api.Frame) { f.Tones[k].Index++ })
		other(func(f *api.Frame) { f.Tones[k].Value-- })
		other(func(f *api.Frame) { f.Tones[k].Value += 1 << 32 })
		other(func(f *api.Frame) { f.Tones = f.Tones[k : k+1] })
	}
	other(func(f *api.Frame) { f.Tones = nil })
	other(func(f *api.Frame) { f.Tones = append(f.Tones, api.Tone{}) })
	other(func(f *api.Frame) { slices.Reverse(f.Tones) })
	return l
}

// Promise 10.2, Same: of all alike, and of one number that is not, either way round.
func TestSame(t *testing.T) {
	if !frame.Same(api.Frame{}, api.Frame{}) || !frame.Same(full(), full()) {
		t.Error("Same of one frame")
	}
	for _, f := range others() {
		if frame.Same(f, full()) || frame.Same(full(), f) {
			t.Errorf("Same(%v, full)", f)
		}
		g := f
		g.Tones = slices.Clone(f.Tones)
		if !frame.Same(f, g) {
			t.Errorf("Same(%v, it)", f)
		}
	}
	if frame.Same(api.Frame{}, full()) {
		t.Error("Same of noughts, and another")
	}
	// nil and the empty list are the same.
	a, b := full(), full()
	a.Tones, b.Tones = nil, []api.Tone{}
	if !frame.Same(a, b) || !frame.Same(b, a) {
		t.Error("no tones, and none")
	}
}

// spectrum is a frame's, by another way than the program's.
func spectrum(f api.Frame) api.Block {
	bound := new(big.Int).Lsh(big.NewInt(1), 31)
	var b api.Block
	for i, v := range f.Q {
		n := new(big.Int).Mul(big.NewInt(v), new(big.Int).Exp(big.NewInt(2), big.NewInt(int64(f.Scale[i/4])), nil))
		for _, t := range f.Tones {
			if t.Index == i {
				n.Add(n, big.NewInt(t.Value))
			}
		}
		if n.Cmp(bound) > 0 {
			n.Set(bound)
		}
		if low := new(big.Int).Neg(bound); n.Cmp(low) < 0 {
			n.Set(low)
		}
		b[i] = n.Int64()
	}
	return b
}

func wantSpectrum(t *testing.T, f api.Frame, want api.Block) {
	t.Helper()
	if got := frame.Spectrum(f); got != want {
		t.Errorf("Spectrum(%v) = %d; want %d", f, got, want)
	}
}

// Promise 10.3: known spectra; gains have no part in them.
func TestSpectrum(t *testing.T) {
	wantSpectrum(t, api.Frame{}, api.Block{})
	wantSpectrum(t, api.Frame{Gains: [4]int{3, 3, 3, 3}, Scale: [4]int{23, 23, 23, 23}}, api.Block{})
	f := api.Frame{
		Gains: [4]int{3, 2, 1, 3},
		Scale: [4]int{0, 1, 3, 23},
		Width: [4]int{2, 3, 3, 4},
		Q:     api.Block{1, -1, -2, 0, 3, -4, 0, 1, -3, 1, 0, 0, 7, -8, 1, -1},
	}
	want := api.Block{1, -1, -2, 0, 6, -8, 0, 2, -24, 8, 0, 0, 7 << 23, -8 << 23, 1 << 23, -1 << 23}
	wantSpectrum(t, f, want)
	f.Tones = []api.Tone{{Index: 3, Value: -70000}, {Index: 15, Value: 1 << 22}}
	want[3], want[15] = -70000, -1<<22
	wantSpectrum(t, f, want)
}

// Promise 10.3: numbers are held within -2^31 and 2^31, once, when the tones were added.
func TestSpectrumHeld(t *testing.T) {
	// Steps of 2^23: 256 of them are 2^31.
	f := api.Frame{Scale: [4]int{23, 23, 23, 23}, Width: [4]int{24, 24, 24, 24}}
	f.Q = api.Block{256, 257, -256, -257, 255, -255, 1<<23 - 1, -1 << 23}
	want := api.Block{1 << 31, 1 << 31, -1 << 31, -1 << 31, 255 << 23, -255 << 23, 1 << 31, -1 << 31}
	wantSpectrum(t, f, want)
	for _, x := range []struct{ q, tone, want int64 }{
		{256, 1, 1 << 31},
		{256, -1, 1<<31 - 1},
		{257, -1 << 23, 1 << 31},
		{257, -1<<23 + 1, 1 << 31},
		{255, 1<<23 - 1, 1<<31 - 1},
		{-256, -1, -1 << 31},
		{-256, 1, -1<<31 + 1},
		{-257, 1<<23 - 1, -1 << 31},
		{-255, -1 << 23, -1 << 31},
		{-255, -1<<23 + 1, -1<<31 + 1},
		{1<<23 - 1, -1 << 23, 1 << 31},
		{-1 << 23, 1<<23 - 1, -1 << 31},
	} {
		for i := range 16 {
			g := api.Frame{Scale: f.Scale, Width: f.Width, Tones: []api.Tone{{Index: i, Value: x.tone}}}
			g.Q[i] = x.q
			want := api.Block{}
			want[i] = x.want
			wantSpectrum(t, g, want)
		}
	}
}

// Promise 10.3: each place of steps and of a tone, and any frame, by another way.
func TestSpectrumAny(t *testing.T) {
	for i := range 16 {
		f := api.Frame{Scale: [4]int{1, 2, 3, 4}, Width: [4]int{3, 3, 3, 3}}
		f.Q[i] = -3
		wantSpectrum(t, f, spectrum(f))
		f.Tones = []api.Tone{{Index: i, Value: 1000}}
		wantSpectrum(t, f, spectrum(f))
	}
	c := chance(7)
	for range 5000 {
		f := c.frame()
		wantSpectrum(t, f, spectrum(f))
	}
}

// Promise 10.4: a frame is read again of its bytes, however many noughts follow.
func TestReadAgain(t *testing.T) {
	c := chance(8)
	for k := range 2000 {
		f := c.frame()
		n := size(laid(f)) + c.below(100)
		if k%500 == 0 {
			n += 1 << 16
		}
		b, e := frame.Bytes(f, n)
		if e != api.OK || len(b) != n {
			t.Fatalf("Bytes(%v, %d): %d bytes, %v", f, n, len(b), e)
		}
		got, e := frame.Read(b)
		if e != api.OK || !frame.Same(f, got) || !alike(f, got) {
			t.Errorf("Read of %v's %d bytes: %v, %v", f, n, got, e)
		}
	}
}

// Rule R1: calls end, without a panic, whatever a frame is.
func TestAnyFrame(t *testing.T) {
	wild := []int{0, 1, -1, 16, 24, 1 << 31, math.MaxInt, math.MinInt}
	c := chance(9)
	pick := func() int { return wild[c.below(len(wild))] }
	for range 5000 {
		f := api.Frame{Tones: make([]api.Tone, c.below(6))}
		for k := range f.Tones {
			f.Tones[k] = api.Tone{Index: pick(), Value: int64(pick())}
		}
		for k := range 4 {
			f.Gains[k], f.Scale[k], f.Width[k] = pick(), pick(), pick()
		}
		for i := range f.Q {
			f.Q[i] = int64(pick())
		}
		frame.Right(f)
		frame.Bits(f)
		frame.Spectrum(f)
		if !frame.Same(f, f) {
			t.Errorf("%v isn't itself", f)
		}
		if b, e := frame.Bytes(f, 96); (e == api.OK) != frame.Right(f) || e != api.OK && b != nil {
			t.Errorf("Bytes(%v) = %x, %v", f, b, e)
		}
	}
}

// Rules R2 and R3: what is handed in stays as it was, and what is answered is new.
func TestMemory(t *testing.T) {
	f := full()
	one, _ := frame.Bytes(f, 96)
	two, _ := frame.Bytes(f, 96)
	frame.Spectrum(f)
	frame.Same(f, f)
	if !alike(f, full()) {
		t.Errorf("%v was changed", f)
	}
	clear(one)
	wantBytes(t, f, 96, two, api.OK)
	mine := slices.Clone(two)
	a, _ := frame.Read(mine)
	b, _ := frame.Read(mine)
	if !bytes.Equal(mine, two) {
		t.Error("Read changed its bytes")
	}
	clear(mine)
	a.Tones[0] = api.Tone{}
	if !alike(b, full()) {
		t.Errorf("%v hangs on what was done with others", b)
	}
}
