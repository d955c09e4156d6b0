package crc_test

import (
	"bytes"
	"hash/crc32"
	"testing"

	"calliope/crc"
)

// chance is a row of numbers that look like chance, and are the same in each run.
type chance uint64

func (c *chance) next() uint64 {
	*c = *c*6364136223846793005 + 1442695040888963407
	x := uint64(*c)
	return x ^ x>>29
}

func (c *chance) below(n int) int {
	return int(c.next() >> 33 % uint64(n))
}

func (c *chance) bytes(n int) []byte {
	b := make([]byte, n)
	for i := range b {
		b[i] = byte(c.below(256))
	}
	return b
}

// cut cuts bytes into parts of chance lengths, some of them of none.
func (c *chance) cut(b []byte) [][]byte {
	var l [][]byte
	for len(b) > 0 {
		n := min(c.below(9), len(b))
		l, b = append(l, b[:n]), b[n:]
	}
	return append(l, nil)
}

// sumByBits is the chapter's words, bit by bit.
func sumByBits(b []byte) uint32 {
	register := uint32(0xffffffff)
	for _, v := range b {
		register = pushByBits(register ^ uint32(v))
	}
	return register ^ 0xffffffff
}

func pushByBits(register uint32) uint32 {
	for range 8 {
		wasOne := register%2 == 1
		register /= 2
		if wasOne {
			register ^= 0xedb88320
		}
	}
	return register
}

func wantState(t *testing.T, s *crc.State, written []byte) {
	t.Helper()
	if s.Sum() != sumByBits(written) || s.Len() != len(written) {
		t.Errorf("%x, %d bytes; want %x, %d", s.Sum(), s.Len(), sumByBits(written), len(written))
	}
}

// Promise 2.1, Sum: sums that are known.
func TestSumKnown(t *testing.T) {
	for text, want := range map[string]uint32{
		"":                           0,
		"\x00":                       0xd202ef8d,
		"\xff":                       0xff000000,
		"a":                          0xe8b7be43,
		"\x00\x00\x00\x00":           0x2144df1c,
		"\xff\xff\xff\xff":           0xffffffff,
		"123456789":                  0xcbf43926,
		"abcdefghijklmnopqrstuvwxyz": 0x4c2750bd,
		"The quick brown fox jumps over the lazy dog": 0x414fa339,
	} {
		if got := crc.Sum([]byte(text)); got != want {
			t.Errorf("Sum(%q) = %x; want %x", text, got, want)
		}
	}
	if crc.Sum(nil) != 0 || crc.Sum([]byte{}) != 0 {
		t.Error("the sum of nothing")
	}
}

// Promise 2.1, Sum: each byte alone and behind another, and bytes of many lengths, by two other ways.
func TestSum(t *testing.T) {
	for a := range 256 {
		wantSum(t, []byte{byte(a)})
		for b := range 256 {
			wantSum(t, []byte{byte(a), byte(b)})
		}
	}
	c := chance(1)
	for n := range 300 {
		wantSum(t, c.bytes(n))
		wantSum(t, make([]byte, n))
		wantSum(t, bytes.Repeat([]byte{0xff}, n))
	}
	wantSum(t, c.bytes(1<<16+1))
}

func wantSum(t *testing.T, b []byte) {
	t.Helper()
	got := crc.Sum(b)
	if got != sumByBits(b) || got != crc32.ChecksumIEEE(b) {
		t.Errorf("Sum(%x) = %x; want %x", b[:min(len(b), 9)], got, sumByBits(b))
	}
}

// Promise 2.1, Table: what each byte becomes.
func TestTable(t *testing.T) {
	got := crc.Table()
	for b := range got {
		if want := pushByBits(uint32(b)); got[b] != want || got[b] != crc32.IEEETable[b] {
			t.Errorf("Table()[%d] = %x; want %x", b, got[b], want)
		}
	}
	if got[0] != 0 || got[1] != 0x77073096 || got[128] != 0xedb88320 || got[255] != 0x2d02ef8d {
		t.Errorf("%x, %x, %x, %x", got[0], got[1], got[128], got[255])
	}
}

// Rule R3: a table that was answered is the caller's own.
func TestTableIsNew(t *testing.T) {
	mine := crc.Table()
	clear(mine[:])
	if crc.Table() != [256]uint32(*crc32.IEEETable) || crc.Sum([]byte("123456789")) != 0xcbf43926 {
		t.Error("a table that was cleared is answered again")
	}
}

// Promise 2.1, Parts: of none, of empty ones, and in their order.
func TestParts(t *testing.T) {
	if crc.Parts() != 0 || crc.Parts(nil) != 0 || crc.Parts([]byte{}, nil, []byte{}) != 0 {
		t.Error("the sum of no parts")
	}
	a, b := []byte("1234"), []byte("56789")
	if crc.Parts(a, b) != 0xcbf43926 || crc.Parts(nil, a, []byte{}, b, nil) != 0xcbf43926 {
		t.Error("the sum of two parts")
	}
	if got := crc.Parts(b, a); got != sumByBits([]byte("567891234")) || got == 0xcbf43926 {
		t.Errorf("the parts the other way round: %x", got)
	}
	if got := crc.Parts(a, a, a); got != sumByBits([]byte("123412341234")) {
		t.Errorf("one part three times: %x", got)
	}
}

// Promise 2.2, New: the sum of nothing, which is each one's own.
func TestNew(t *testing.T) {
	s, other := crc.New(), crc.New()
	if s == nil || other == nil {
		t.Fatal("no state")
	}
	wantState(t, s, nil)
	s.Write(1, 2, 3)
	wantState(t, s, []byte{1, 2, 3})
	wantState(t, other, nil)
	wantState(t, crc.New(), nil)
	other.Write(3, 2)
	wantState(t, other, []byte{3, 2})
	wantState(t, s, []byte{1, 2, 3})
}

// Promise 2.2, Write: of none nothing goes on; telling a sum doesn't end it.
func TestWrite(t *testing.T) {
	s := crc.New()
	s.Write()
	s.Write(nil...)
	s.Write([]byte{}...)
	wantState(t, s, nil)
	var written []byte
	c := chance(2)
	for n := range 70 {
		b := c.bytes(n)
		s.Write(b...)
		written = append(written, b...)
		wantState(t, s, written)
		wantState(t, s, written)
		s.Write()
		wantState(t, s, written)
	}
}

// Promise 2.2: a nil state tells 0, and Write does nothing.
func TestNilState(t *testing.T) {
	var s *crc.State
	for _, b := range [][]byte{nil, {0}, []byte("123456789")} {
		s.Write(b...)
		if s != nil || s.Sum() != 0 || s.Len() != 0 {
			t.Error(s.Sum(), s.Len())
		}
	}
}

// Rule R1: a state that no call made is the sum of nothing.
func TestStateNobodyMade(t *testing.T) {
	var s crc.State
	wantState(t, &s, nil)
	s.Write([]byte("123456789")...)
	wantState(t, &s, []byte("123456789"))
	if s.Sum() != 0xcbf43926 {
		t.Errorf("%x", s.Sum())
	}
}

// Rule R3: what is handed in is neither changed nor kept.
func TestBytesStay(t *testing.T) {
	b := []byte("123456789")
	s := crc.New()
	s.Write(b...)
	crc.Sum(b)
	crc.Parts(b[:4], b[4:])
	if string(b) != "123456789" {
		t.Errorf("%q", b)
	}
	clear(b)
	wantState(t, s, []byte("123456789"))
}

// Promise 2.3: a message cut at each two places.
func TestCutTwice(t *testing.T) {
	b := []byte("123456789 and \x00\xff more")
	want := sumByBits(b)
	for i := range len(b) + 1 {
		for j := i; j <= len(b); j++ {
			s := crc.New()
			s.Write(b[:i]...)
			s.Write(b[i:j]...)
			s.Write(b[j:]...)
			wantState(t, s, b)
			if got := crc.Parts(b[:i], b[i:j], b[j:]); got != want {
				t.Errorf("cut at %d and %d: %x; want %x", i, j, got, want)
			}
		}
	}
}

// Promise 2.3: messages cut into many parts, and into single bytes.
func TestCutOften(t *testing.T) {
	c := chance(3)
	for range 200 {
		b := c.bytes(c.below(400))
		parts := c.cut(b)
		s, single := crc.New(), crc.New()
		for _, p := range parts {
			s.Write(p...)
		}
		for _, v := range b {
			single.Write(v)
		}
		wantState(t, s, b)
		wantState(t, single, b)
		if got := crc.Parts(parts...); got != s.Sum() || got != crc.Sum(b) {
			t.Errorf("%d bytes in %d parts: %x; want %x", len(b), len(parts), got, crc.Sum(b))
		}
	}
}
