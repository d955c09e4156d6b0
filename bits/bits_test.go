package bits_test

import (
	"bytes"
	"math"
	"math/big"
	"strings"
	"testing"

	"calliope/api"
	"calliope/bits"
)

// wrongWidths are counts of bits that no number may have.
var wrongWidths = []int{math.MinInt, -64, -1, bits.Widest + 1, 63, 64, 65, 128, math.MaxInt}

// chance is a row of numbers that look like chance, and are the same in each run.
type chance uint64

func (c *chance) next() uint64 {
	*c = *c*6364136223846793005 + 1442695040888963407
	x := uint64(*c)
	return x ^ x>>29
}

func (c *chance) below(n int) int {
	return int(c.next() >> 33 % uint64(n))
}

// digits are a number's lowest k bits as noughts and ones, by another way than the program's.
func digits(v int64, k int) string {
	m := new(big.Int).Lsh(big.NewInt(1), uint(k))
	m.Mod(big.NewInt(v), m)
	if k == 0 {
		return ""
	}
	s := m.Text(2)
	return strings.Repeat("0", k-len(s)) + s
}

// filled are noughts and ones as bytes, with noughts up to so many of them.
func filled(s string, size int) []byte {
	s += strings.Repeat("0", 8*size-len(s))
	out := []byte{}
	for i := 0; i < len(s); i += 8 {
		v, _ := new(big.Int).SetString(s[i:i+8], 2)
		out = append(out, byte(v.Int64()))
	}
	return out
}

func wantBytes(t *testing.T, w *bits.Writer, size int, want []byte, wantErr api.Errno) {
	t.Helper()
	if got, e := w.Bytes(size); e != wantErr || !bytes.Equal(got, want) {
		t.Errorf("Bytes(%d) = %x, %v; want %x, %v", size, got, e, want, wantErr)
	}
}

func TestWidest(t *testing.T) {
	if bits.Widest != 57 {
		t.Error(bits.Widest)
	}
}

// Promise 1.1, Fits.
func TestFits(t *testing.T) {
	for k := -3; k <= 70; k++ {
		for _, v := range near(k) {
			if got, want := bits.Fits(v, k), fitsByBig(v, k); got != want {
				t.Errorf("Fits(%d, %d) = %v", v, k, got)
			}
		}
	}
	for _, k := range []int{math.MinInt, -64} {
		if !bits.Fits(0, k) || bits.Fits(1, k) || bits.Fits(-1, k) {
			t.Errorf("Fits of %d bits", k)
		}
	}
	if !bits.Fits(math.MinInt64, math.MaxInt) || !bits.Fits(math.MaxInt64, math.MaxInt) {
		t.Error("Fits of the most bits")
	}
}

// near are numbers at the edges of so many bits, and of 64.
func near(k int) []int64 {
	l := []int64{0, 1, -1, 2, -2, math.MaxInt64, math.MinInt64, math.MaxInt64 - 1, math.MinInt64 + 1}
	for _, p := range []int{k - 2, k - 1, k} {
		if 0 <= p && p <= 62 {
			h := int64(1) << p
			l = append(l, h-1, h, h+1, -h-1, -h, -h+1)
		}
	}
	return l
}

func fitsByBig(v int64, k int) bool {
	if k <= 0 {
		return v == 0
	}
	half := new(big.Int).Lsh(big.NewInt(1), uint(k-1))
	n := big.NewInt(v)
	return n.Cmp(new(big.Int).Neg(half)) >= 0 && n.Cmp(half) < 0
}

// Promise 1.1, the zero value of a Writer, and the example of the chapter.
func TestWriterBegins(t *testing.T) {
	var w bits.Writer
	if w.Len() != 0 {
		t.Error(w.Len())
	}
	wantBytes(t, &w, 0, nil, api.OK)
	wantBytes(t, &w, 3, []byte{0, 0, 0}, api.OK)
	w.Put(5, 3)
	w.Signed(-1, 2)
	if w.Len() != 5 {
		t.Error(w.Len())
	}
	wantBytes(t, &w, 1, []byte{0xb8}, api.OK)
	wantBytes(t, &w, 4, []byte{0xb8, 0, 0, 0}, api.OK)
}

// Promise 1.1, Put: each width, from each place in a byte.
func TestPut(t *testing.T) {
	for k := 0; k <= bits.Widest; k++ {
		for ahead := range 9 {
			for _, v := range []uint64{0, 1, 1<<k - 1, 1 << k >> 1, 0x155555555555555 & (1<<k - 1)} {
				putOne(t, v, k, ahead)
			}
		}
	}
}

func putOne(t *testing.T, v uint64, k, ahead int) {
	t.Helper()
	var w bits.Writer
	w.Put(1<<ahead-1, ahead)
	w.Put(v, k)
	if v>>k != 0 {
		wantBytes(t, &w, 99, nil, api.ErrRange)
		return
	}
	w.Put(1, 1)
	s := strings.Repeat("1", ahead) + digits(int64(v), k) + "1"
	if w.Len() != len(s) {
		t.Errorf("Put(%d, %d): %d bits", v, k, w.Len())
	}
	wantBytes(t, &w, 10, filled(s, 10), api.OK)
}

// Promise 1.1, Put and Signed: ErrRange, and nothing more is laid behind it.
func TestLaidWrong(t *testing.T) {
	laidWrong := func(lay func(w *bits.Writer)) {
		t.Helper()
		var w bits.Writer
		w.Put(3, 2)
		lay(&w)
		w.Put(1, 1)
		w.Signed(-1, 1)
		w.All(4, 1, 2)
		if w.Len() != 2 {
			t.Errorf("%d bits behind an error", w.Len())
		}
		wantBytes(t, &w, 9, nil, api.ErrRange)
		wantBytes(t, &w, 0, nil, api.ErrRange)
		wantBytes(t, &w, -1, nil, api.ErrRange)
	}
	for _, k := range wrongWidths {
		laidWrong(func(w *bits.Writer) { w.Put(0, k) })
		laidWrong(func(w *bits.Writer) { w.Signed(0, k) })
		laidWrong(func(w *bits.Writer) { w.All(k, 0) })
	}
	for k := 0; k <= bits.Widest; k++ {
		laidWrong(func(w *bits.Writer) { w.Put(1<<k, k) })
		laidWrong(func(w *bits.Writer) { w.Put(math.MaxUint64, k) })
		above := int64(1) << max(k-1, 0)
		laidWrong(func(w *bits.Writer) { w.Signed(above, k) })
		laidWrong(func(w *bits.Writer) { w.Signed(-above-1, k) })
	}
}

// Promise 1.1, Signed: the edges of each width.
func TestSigned(t *testing.T) {
	for k := 0; k <= bits.Widest; k++ {
		for _, v := range near(k) {
			var w bits.Writer
			w.Put(2, 3)
			w.Signed(v, k)
			if !fitsByBig(v, k) {
				wantBytes(t, &w, 99, nil, api.ErrRange)
				continue
			}
			if w.Len() != 3+k {
				t.Errorf("Signed(%d, %d): %d bits", v, k, w.Len())
			}
			wantBytes(t, &w, 8, filled("010"+digits(v, k), 8), api.OK)
		}
	}
}

// Promise 1.1, All: Put of each, as far as the first error.
func TestAll(t *testing.T) {
	var w bits.Writer
	w.All(3)
	w.All(-1)
	w.All(99)
	if w.Len() != 0 {
		t.Error(w.Len())
	}
	w.All(4, 1, 15, 0, 9)
	wantBytes(t, &w, 2, []byte{0x1f, 0x09}, api.OK)
	l := []uint64{7, 8, 1}
	w.All(3, l...)
	if w.Len() != 19 || l[0] != 7 || l[1] != 8 || l[2] != 1 {
		t.Error(w.Len(), l)
	}
	wantBytes(t, &w, 9, nil, api.ErrRange)
}

// Promise 1.1, Bytes: ErrArg ahead of ErrLong, neither of which stays.
func TestBytesSize(t *testing.T) {
	var w bits.Writer
	w.Put(0, 8)
	wantBytes(t, &w, 1, []byte{0}, api.OK)
	w.Put(0, 1)
	wantBytes(t, &w, 1, nil, api.ErrLong)
	wantBytes(t, &w, 0, nil, api.ErrLong)
	wantBytes(t, &w, -1, nil, api.ErrArg)
	wantBytes(t, &w, math.MinInt, nil, api.ErrArg)
	wantBytes(t, &w, math.MaxInt, nil, api.ErrArg)
	wantBytes(t, &w, 2, []byte{0, 0}, api.OK)
	w.Put(127, 7)
	wantBytes(t, &w, 2, []byte{0, 127}, api.OK)
	wantBytes(t, &w, 3, []byte{0, 127, 0}, api.OK)
}

// Rule R3: what Bytes answers is new memory.
func TestBytesAreNew(t *testing.T) {
	var w bits.Writer
	w.Put(0xab, 8)
	w.Put(1, 2)
	a, _ := w.Bytes(2)
	b, _ := w.Bytes(2)
	a[0], a[1] = 0, 0xff
	w.Put(3, 2)
	if !bytes.Equal(b, []byte{0xab, 0x40}) {
		t.Errorf("%x", b)
	}
	wantBytes(t, &w, 2, []byte{0xab, 0x70}, api.OK)
}

// Rule R1: a writer and a reader that are nil, and a reader that no call made.
func TestNobody(t *testing.T) {
	var w *bits.Writer
	w.Put(1, 1)
	w.Signed(-1, 99)
	w.All(4, 1, 2)
	if w.Len() != 0 {
		t.Error(w.Len())
	}
	wantBytes(t, w, 2, []byte{0, 0}, api.OK)
	wantBytes(t, w, -1, nil, api.ErrArg)
	var r *bits.Reader
	r.Fail(api.ErrSum)
	if r.Get(4) != 0 || r.Get(-4) != 0 || r.Signed(4) != 0 || r.Signed(99) != 0 {
		t.Error("a nil reader reads")
	}
	if r.Left() != 0 || r.Err() != api.OK || r.End() != api.OK {
		t.Error(r.Left(), r.Err())
	}
	var z bits.Reader
	if z.Left() != 0 || z.Get(0) != 0 || z.End() != api.OK || z.Signed(1) != 0 || z.Err() != api.ErrShort {
		t.Error(z.Left(), z.Err())
	}
}

// Promise 1.2, Get: each width, from each place in a byte.
func TestGet(t *testing.T) {
	b := []byte{0xa5, 0x3c, 0xff, 0x00, 0x81, 0x7e, 0x12, 0xed, 0x5a}
	s := ""
	for _, x := range b {
		s += digits(int64(x), 8)
	}
	for k := 0; k <= bits.Widest; k++ {
		for ahead := range 16 {
			r := bits.Read(b)
			r.Get(ahead)
			want, _ := new(big.Int).SetString("0"+s[ahead:min(ahead+k, 72)], 2)
			left, e := 72-ahead-k, api.OK
			if left < 0 {
				want, left, e = new(big.Int), 0, api.ErrShort
			}
			if got := r.Get(k); got != want.Uint64() || r.Left() != left || r.Err() != e {
				t.Errorf("Get(%d) behind %d = %x; want %x (%d left, %v)", k, ahead, got, want, r.Left(), r.Err())
			}
		}
	}
}

// Promise 1.2, Get and Signed: ErrArg and ErrShort, behind which all is 0 and nothing is left.
func TestReadWrong(t *testing.T) {
	readWrong := func(want api.Errno, read func(r *bits.Reader) bool) {
		t.Helper()
		r := bits.Read([]byte{0xff, 0xff})
		r.Get(1)
		if !read(r) {
			t.Error("reads more than 0")
		}
		if r.Left() != 0 || r.Err() != want || r.End() != want {
			t.Errorf("%d left, %v, %v; want %v", r.Left(), r.Err(), r.End(), want)
		}
		if r.Get(1) != 0 || r.Signed(1) != 0 || r.Get(0) != 0 || r.Get(-1) != 0 || r.Signed(16) != 0 {
			t.Error("reads behind an error")
		}
		r.Fail(api.ErrSum)
		if r.Left() != 0 || r.Err() != want || r.End() != want {
			t.Errorf("%d left, %v; want %v", r.Left(), r.Err(), want)
		}
	}
	for _, k := range wrongWidths {
		readWrong(api.ErrArg, func(r *bits.Reader) bool { return r.Get(k) == 0 })
		readWrong(api.ErrArg, func(r *bits.Reader) bool { return r.Signed(k) == 0 })
	}
	for k := 16; k <= bits.Widest; k++ {
		readWrong(api.ErrShort, func(r *bits.Reader) bool { return r.Get(k) == 0 })
		readWrong(api.ErrShort, func(r *bits.Reader) bool { return r.Signed(k) == 0 })
	}
}

// Promise 1.2: of all bits that are left just so many can be had.
func TestReadAll(t *testing.T) {
	r := bits.Read([]byte{0xff, 0xfe})
	if r.Left() != 16 || r.Get(16) != 0xfffe || r.Left() != 0 || r.Err() != api.OK || r.End() != api.OK {
		t.Error(r.Left(), r.Err())
	}
	if r.Get(0) != 0 || r.Signed(0) != 0 || r.Err() != api.OK {
		t.Error(r.Err())
	}
	if r.Get(1) != 0 || r.Err() != api.ErrShort {
		t.Error(r.Err())
	}
	if r := bits.Read(nil); r == nil || r.Left() != 0 || r.End() != api.OK {
		t.Error("a reader of nothing")
	}
}

// Promise 1.2, Signed: the highest bit is the sign.
func TestReadSigned(t *testing.T) {
	for k := 1; k <= bits.Widest; k++ {
		half := int64(1) << (k - 1)
		for _, v := range []int64{0, -1, half - 1, -half, -half + half/3, half / 3} {
			s := "10" + digits(v, k)
			r := bits.Read(filled(s, 8))
			r.Get(2)
			if got := r.Signed(k); got != v || r.Left() != 64-len(s) || r.Err() != api.OK {
				t.Errorf("Signed(%d) = %d; want %d (%v)", k, got, v, r.Err())
			}
		}
	}
}

// Promise 1.2, Fail: just the first error counts; OK is none.
func TestFail(t *testing.T) {
	r := bits.Read([]byte{0xf0})
	r.Fail(api.OK)
	if r.Err() != api.OK || r.Left() != 8 || r.Get(4) != 15 || r.End() != api.OK {
		t.Error(r.Err(), r.Left())
	}
	r.Fail(api.ErrSum)
	r.Fail(api.ErrName)
	r.Fail(api.OK)
	if r.Err() != api.ErrSum || r.End() != api.ErrSum || r.Left() != 0 || r.Get(1) != 0 || r.Get(99) != 0 {
		t.Error(r.Err(), r.Left())
	}
	if r.Err() != api.ErrSum {
		t.Error(r.Err())
	}
	r = bits.Read([]byte{0xff})
	r.Fail(api.Errno(-7))
	if r.Err() != api.Errno(-7) || r.End() != api.Errno(-7) || r.Get(1) != 0 {
		t.Error(r.Err())
	}
}

// Promise 1.2, End: any bit that is left, wherever it stands, is told, and is the first error then.
func TestEnd(t *testing.T) {
	for at := range 24 {
		for read := range 24 {
			b := make([]byte, 3)
			b[at/8] = 0x80 >> (at % 8)
			r := bits.Read(b)
			r.Get(read)
			want := api.OK
			if at >= read {
				want = api.ErrForm
			}
			if got := r.End(); got != want || r.Left() != 0 || r.Err() != want || r.End() != want {
				t.Errorf("bit %d, %d read: %v, %d left, %v", at, read, got, r.Left(), r.Err())
			}
			r.Fail(api.ErrSum)
			if want == api.ErrForm && (r.Err() != api.ErrForm || r.Get(1) != 0) {
				t.Errorf("bit %d, %d read: %v behind End", at, read, r.Err())
			}
		}
	}
	if r := bits.Read([]byte{0, 0, 7}); r.End() != api.ErrForm {
		t.Error(r.Err())
	}
}

// Promise 1.2, End: behind it no bit is left, where it answers OK too.
func TestEndLeavesNone(t *testing.T) {
	for read := range 25 {
		for k := -1; k <= bits.Widest+1; k++ {
			want := api.ErrShort
			if k == 0 {
				want = api.OK
			} else if k < 0 || k > bits.Widest {
				want = api.ErrArg
			}
			r, s := ended(t, read), ended(t, read)
			if v := r.Get(k); v != 0 || r.Err() != want || r.Left() != 0 || r.End() != want {
				t.Errorf("%d read, End, Get(%d) = %d, %v; want %v", read, k, v, r.Err(), want)
			}
			if v := s.Signed(k); v != 0 || s.Err() != want || s.Left() != 0 || s.End() != want {
				t.Errorf("%d read, End, Signed(%d) = %d, %v; want %v", read, k, v, s.Err(), want)
			}
		}
		r := ended(t, read)
		r.Fail(api.ErrSum)
		if r.Err() != api.ErrSum || r.End() != api.ErrSum || r.Left() != 0 {
			t.Errorf("%d read, End, Fail: %v", read, r.Err())
		}
	}
}

// ended is a reader of noughts of which so many were read, behind an End that answered OK.
func ended(t *testing.T, read int) *bits.Reader {
	t.Helper()
	r := bits.Read(make([]byte, 3))
	r.Get(read)
	if e := r.End(); e != api.OK || r.Err() != api.OK || r.Left() != 0 || r.End() != api.OK {
		t.Errorf("%d read: End %v, %d left", read, e, r.Left())
	}
	return r
}

// Rule R3: what a reader was given is neither changed nor kept.
func TestReadKeepsNothing(t *testing.T) {
	b := []byte{0x12, 0x34}
	r := bits.Read(b)
	b[0], b[1] = 0xff, 0xff
	if r.Get(16) != 0x1234 || b[0] != 0xff || b[1] != 0xff {
		t.Error("the reader keeps its list")
	}
}

type field struct {
	kind, k int
	v       int64
}

// lay lays a field by one of the three calls that lay.
func (f field) lay(w *bits.Writer) {
	switch f.kind {
	case 0:
		w.Put(uint64(f.v), f.k)
	case 1:
		w.Signed(f.v, f.k)
	default:
		w.All(f.k, uint64(f.v), uint64(f.v)/2)
	}
}

func (f field) digits() string {
	if f.kind < 2 {
		return digits(f.v, f.k)
	}
	return digits(f.v, f.k) + digits(f.v/2, f.k)
}

// isRead tells whether a reader reads the field.
func (f field) isRead(r *bits.Reader) bool {
	switch f.kind {
	case 0:
		return r.Get(f.k) == uint64(f.v)
	case 1:
		return r.Signed(f.k) == f.v
	default:
		return r.Get(f.k) == uint64(f.v) && r.Get(f.k) == uint64(f.v)/2
	}
}

func someField(c *chance) field {
	f := field{kind: c.below(3), k: c.below(bits.Widest + 1)}
	if f.k > 0 {
		f.v = int64(c.next() >> (64 - f.k))
		if f.kind == 1 {
			f.v -= 1 << (f.k - 1)
		}
	}
	return f
}

// Promise 1.3: what was laid is read as it was, and nothing but noughts is left.
func TestThereAndBack(t *testing.T) {
	c := chance(1)
	for range 500 {
		var w bits.Writer
		fields, s := make([]field, c.below(40)), ""
		for i := range fields {
			fields[i] = someField(&c)
			fields[i].lay(&w)
			s += fields[i].digits()
		}
		size := (len(s)+7)/8 + c.below(4)
		wantBytes(t, &w, size, filled(s, size), api.OK)
		b, _ := w.Bytes(size)
		r := bits.Read(b)
		for _, f := range fields {
			if !f.isRead(r) {
				t.Fatalf("%+v: %v", f, r.Err())
			}
		}
		if w.Len() != len(s) || r.Left() != 8*size-len(s) || r.End() != api.OK {
			t.Fatalf("%d laid, %d left, %v", w.Len(), r.Left(), r.Err())
		}
	}
}
