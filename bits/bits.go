// Package bits is layer 1: see shared/doc/01-bits.md.
package bits

import (
	"calliope/api"
)

// Widest is how many bits a number has at most.
const Widest = 57

// mostBytes is how many bytes one call answers at most: more could not be had, and asking for them would end the program.
const mostBytes = 1<<31 - 1

// Writer lays bits. Its zero value has laid nothing; so has a nil one, on which nothing can be laid.
type Writer struct {
	bytes []byte
	laid  int
	err   api.Errno
}

// isWidth tells whether a number may have so many bits.
func isWidth(k int) bool {
	return 0 <= k && k <= Widest
}

// Put lays the lowest so many bits of a number; ErrRange: there are more of it, or so many can't be.
func (w *Writer) Put(v uint64, k int) {
	w.lay(v, k, isWidth(k) && v>>k == 0)
}

// Signed lays a number with a sign, as a two's complement of so many bits.
func (w *Writer) Signed(v int64, k int) {
	w.lay(uint64(v), k, isWidth(k) && Fits(v, k))
}

// All lays numbers of so many bits each.
func (w *Writer) All(k int, l ...uint64) {
	for _, v := range l {
		w.Put(v, k)
	}
}

// lay lays a number's bits, if they are right; else that is the first error.
func (w *Writer) lay(v uint64, k int, right bool) {
	if w == nil || w.err != api.OK {
		return
	}
	if !right {
		w.err = api.ErrRange
		return
	}
	for i := range k {
		w.layBit(byte(v >> (k - 1 - i) & 1))
	}
}

// layBit lays one bit, in a new byte if the last one is full.
func (w *Writer) layBit(bit byte) {
	if w.laid%8 == 0 {
		w.bytes = append(w.bytes, 0)
	}
	w.bytes[w.laid/8] |= bit << (7 - w.laid%8)
	w.laid++
}

// Len is how many bits were laid.
func (w *Writer) Len() int {
	if w == nil {
		return 0
	}
	return w.laid
}

// Bytes is what was laid, with bits 0 up to so many bytes; ErrLong: it is more.
// What is told here is no error of laying: a later call may ask for more bytes.
func (w *Writer) Bytes(size int) ([]byte, api.Errno) {
	if w == nil {
		w = &Writer{}
	}
	if w.err != api.OK {
		return nil, w.err
	}
	if size < 0 || size > mostBytes {
		return nil, api.ErrArg
	}
	if len(w.bytes) > size {
		return nil, api.ErrLong
	}
	out := make([]byte, size)
	copy(out, w.bytes)
	return out, api.OK
}

// Fits tells whether a number is a two's complement of so many bits; of none just 0 is.
func Fits(v int64, k int) bool {
	if k <= 0 {
		return v == 0
	}
	if k > 63 {
		return true
	}
	half := int64(1) << (k - 1)
	return -half <= v && v < half
}

// Reader reads bits. Its zero value, and a nil one, have none; a nil one remembers no error.
type Reader struct {
	bytes []byte
	at    int
	err   api.Errno
}

// Read is a reader of bytes. They are copied: who handed them in may write on them.
func Read(b []byte) *Reader {
	own := make([]byte, len(b))
	copy(own, b)
	return &Reader{bytes: own}
}

// Fail remembers the first error.
func (r *Reader) Fail(e api.Errno) {
	if r != nil && r.err == api.OK {
		r.err = e
	}
}

// Err is the first error.
func (r *Reader) Err() api.Errno {
	if r == nil {
		return api.OK
	}
	return r.err
}

// Left is how many bits are left.
func (r *Reader) Left() int {
	if r == nil || r.err != api.OK {
		return 0
	}
	return 8*len(r.bytes) - r.at
}

// Get reads a number of so many bits.
func (r *Reader) Get(k int) uint64 {
	if !isWidth(k) {
		r.Fail(api.ErrArg)
		return 0
	}
	if k > r.Left() {
		r.Fail(api.ErrShort)
		return 0
	}
	v := uint64(0)
	for range k {
		v = v<<1 | uint64(r.bit(r.at))
		r.at++
	}
	return v
}

// Signed reads a two's complement of so many bits.
func (r *Reader) Signed(k int) int64 {
	v := int64(r.Get(k))
	if k > 0 && v>>(k-1) == 1 {
		v -= 1 << k
	}
	return v
}

// End is the first error; ErrForm, if a bit that is left is not 0.
// It reads what is left, for behind it there is none, whatever it answers.
func (r *Reader) End() api.Errno {
	for r.Left() > 0 {
		if r.Get(min(r.Left(), Widest)) != 0 {
			r.Fail(api.ErrForm)
		}
	}
	return r.Err()
}

// bit is the bit at a place, which there is.
func (r *Reader) bit(at int) byte {
	return r.bytes[at/8] >> (7 - at%8) & 1
}
