package veil_test

import (
	"math"
	"math/big"
	"reflect"
	"slices"
	"testing"

	"calliope/api"
	"calliope/frame"
	"calliope/veil"
)

// chance is a row of numbers that look like chance, and are the same in each run.
type chance uint64

func (c *chance) next() uint64 {
	*c = *c*6364136223846793005 + 1442695040888963407
	x := uint64(*c)
	return x ^ x>>29
}

func (c *chance) below(n int) int {
	return int(c.next() >> 33 % uint64(n))
}

// signed is a number that fits so many bits, its ends among them.
func (c *chance) signed(width int) int64 {
	if width == 0 {
		return 0
	}
	half := int64(1) << (width - 1)
	switch c.below(6) {
	case 0:
		return -half
	case 1:
		return half - 1
	case 2:
		return 0
	}
	return int64(c.next()>>1%uint64(2*half)) - half
}

// tones are so many, at rising places.
func (c *chance) tones(n int) []api.Tone {
	var l []api.Tone
	place := 0
	for k := range n {
		place += c.below(16 - place - (n - k - 1))
		l = append(l, api.Tone{Index: place, Value: c.signed(24)})
		place++
	}
	return l
}

// frame is one that may be.
func (c *chance) frame() api.Frame {
	f := api.Frame{Tones: c.tones(c.below(3))}
	for k := range 4 {
		f.Gains[k], f.Scale[k], f.Width[k] = c.below(4), c.below(24), c.below(25)
	}
	for i := range f.Q {
		f.Q[i] = c.signed(f.Width[i/4])
	}
	return f
}

// row is so many frames, of which about one in so many is good.
func (c *chance) row(n, one int) []*api.Frame {
	l := make([]*api.Frame, n)
	for i := range l {
		if c.below(one) == 0 {
			f := c.frame()
			l[i] = &f
		}
	}
	return l
}

// alone is a frame without tones, in steps of 1, whose spectrum is those numbers; they fit 24 bits.
func alone(gains [4]int, b ...int64) api.Frame {
	f := api.Frame{Gains: gains, Width: [4]int{24, 24, 24, 24}}
	copy(f.Q[:], b)
	return f
}

// loudest is one of whose spectrum's numbers some are held within their bounds.
func loudest() api.Frame {
	return api.Frame{
		Gains: [4]int{3, 2, 1, 3},
		Tones: []api.Tone{{Index: 0, Value: 8388607}, {Index: 15, Value: -8388608}},
		Scale: [4]int{23, 8, 7, 23},
		Width: [4]int{24, 24, 24, 24},
		Q: api.Block{
			8388607, -8388608, 1, -1,
			8388607, -8388608, 4194304, -4194304,
			8388607, -8388608, 1, -1,
			255, -255, -256, -256,
		},
	}
}

// pieceOf is a frame's piece, by the chapters' words and another way than the program's.
func pieceOf(f api.Frame) veil.Piece {
	p := veil.Piece{Gains: f.Gains}
	bound := new(big.Int).Lsh(big.NewInt(1), 31)
	for i, steps := range f.Q {
		v := new(big.Int).Lsh(big.NewInt(steps), uint(f.Scale[i/4]))
		for _, t := range f.Tones {
			if t.Index == i {
				v.Add(v, big.NewInt(t.Value))
			}
		}
		if v.CmpAbs(bound) > 0 {
			v.Mul(bound, big.NewInt(int64(v.Sign())))
		}
		p.Spectrum[i] = v.Int64()
	}
	return p
}

// standing is what stands for the last frame of a row, found by looking back from it; and how many were lost there.
func standing(l []*api.Frame) (veil.Piece, int) {
	k := 0
	for k < len(l) && l[len(l)-1-k] == nil {
		k++
	}
	if k == len(l) || k > 4 {
		return veil.Piece{}, k
	}
	p := pieceOf(*l[len(l)-1-k])
	divisor := big.NewInt([]int64{1, 2, 4, 8, 16}[k])
	for i, v := range p.Spectrum {
		p.Spectrum[i] = new(big.Int).Quo(big.NewInt(v), divisor).Int64()
	}
	return p, k
}

// step does to a veil what a row's last frame is: had, or lost; and holds it against what it must be.
func step(t *testing.T, v *veil.Veil, l []*api.Frame) {
	t.Helper()
	want, lost := standing(l)
	var got veil.Piece
	if f := l[len(l)-1]; f != nil {
		got = v.Good(*f)
	} else {
		got = v.Lose()
	}
	if got != want || v.Lost() != lost {
		t.Fatalf("the frame %d: %v, %d lost; want %v, %d", len(l)-1, got, v.Lost(), want, lost)
	}
}

// walk holds a new veil, and Row, against a row of frames.
func walk(t *testing.T, l []*api.Frame) {
	t.Helper()
	v := &veil.Veil{}
	for i := range l {
		step(t, v, l[:i+1])
	}
	got := veil.Row(l...)
	if len(got) != len(l) {
		t.Fatalf("%d pieces of %d frames", len(got), len(l))
	}
	for i, p := range got {
		if want, _ := standing(l[:i+1]); p != want {
			t.Fatalf("Row: the piece %d is %v; want %v", i, p, want)
		}
	}
}

// The chapter's example: a good frame whose spectrum begins with 100, and one that is lost: 50.
func TestExample(t *testing.T) {
	f := alone([4]int{}, 100)
	v := &veil.Veil{}
	if p := v.Good(f); p.Spectrum[0] != 100 {
		t.Fatal(p)
	}
	if p := v.Lose(); p.Spectrum[0] != 50 {
		t.Fatal(p)
	}
	if l := veil.Row(&f, nil); l[0].Spectrum[0] != 100 || l[1].Spectrum[0] != 50 {
		t.Fatal(l)
	}
}

// The chapter's Most, which fits any kind of number.
func TestMost(t *testing.T) {
	var small int8 = veil.Most
	if small != 4 || len([veil.Most]int{}) != 4 {
		t.Fatal(small)
	}
}

// Promise 19.1: Of is the frame's spectrum, and its gains.
func TestOf(t *testing.T) {
	c := chance(1)
	l := []api.Frame{{}, loudest(), alone([4]int{0, 1, 2, 3}, 1, -1, 2, -2), {Tones: []api.Tone{{Index: 15, Value: -1}}}}
	for range 3000 {
		l = append(l, c.frame())
	}
	for _, f := range l {
		if !frame.Right(f) {
			t.Fatalf("%v may not be", f)
		}
		want := pieceOf(f)
		if got := veil.Of(f); got != want {
			t.Fatalf("Of(%v) = %v; want %v", f, got, want)
		}
		v := &veil.Veil{}
		if got := v.Good(f); got != want {
			t.Fatalf("Good(%v) = %v; want %v", f, got, want)
		}
		if want.Spectrum != frame.Spectrum(f) {
			t.Fatalf("%v: the spectrum is %v; want %v", f, frame.Spectrum(f), want.Spectrum)
		}
	}
}

// Promise 19.1: of known pieces what stands in for four that are lost, and for those behind them: towards 0, whatever the sign.
func TestLose(t *testing.T) {
	gains := [4]int{3, 0, 1, 2}
	for _, x := range []struct {
		v    int64
		want [4]int64
	}{
		{0, [4]int64{0, 0, 0, 0}},
		{1, [4]int64{0, 0, 0, 0}},
		{-1, [4]int64{0, 0, 0, 0}},
		{2, [4]int64{1, 0, 0, 0}},
		{-2, [4]int64{-1, 0, 0, 0}},
		{3, [4]int64{1, 0, 0, 0}},
		{-3, [4]int64{-1, 0, 0, 0}},
		{7, [4]int64{3, 1, 0, 0}},
		{-7, [4]int64{-3, -1, 0, 0}},
		{15, [4]int64{7, 3, 1, 0}},
		{-15, [4]int64{-7, -3, -1, 0}},
		{16, [4]int64{8, 4, 2, 1}},
		{-16, [4]int64{-8, -4, -2, -1}},
		{31, [4]int64{15, 7, 3, 1}},
		{-31, [4]int64{-15, -7, -3, -1}},
		{32, [4]int64{16, 8, 4, 2}},
		{100, [4]int64{50, 25, 12, 6}},
		{-100, [4]int64{-50, -25, -12, -6}},
		{8388607, [4]int64{4194303, 2097151, 1048575, 524287}},
		{-8388608, [4]int64{-4194304, -2097152, -1048576, -524288}},
	} {
		for place := range 16 {
			b := api.Block{}
			b[place] = x.v
			v := &veil.Veil{}
			v.Good(alone(gains, b[:]...))
			for k := 1; k <= 12; k++ {
				want := veil.Piece{}
				if k <= 4 {
					want.Gains = gains
					want.Spectrum[place] = x.want[k-1]
				}
				if got := v.Lose(); got != want || v.Lost() != k {
					t.Fatalf("%d at %d, lost %d times: %v, %d; want %v", x.v, place, k, got, v.Lost(), want)
				}
			}
		}
	}
}

// Promise 19.1: numbers are held within their bounds first, and divided then.
func TestLoudest(t *testing.T) {
	f := loudest()
	v := &veil.Veil{}
	want := api.Block{
		1 << 31, -1 << 31, 1 << 23, -1 << 23,
		8388607 << 8, -1 << 31, 1 << 30, -1 << 30,
		8388607 << 7, -1 << 30, 1 << 7, -1 << 7,
		255 << 23, -255 << 23, -1 << 31, -1 << 31,
	}
	if p := v.Good(f); p.Spectrum != want || p.Gains != f.Gains {
		t.Fatal(p)
	}
	for k := 1; k <= 4; k++ {
		p := v.Lose()
		if p.Gains != f.Gains || p.Spectrum[0] != 1<<(31-k) || p.Spectrum[1] != -1<<(31-k) || p.Spectrum[15] != -1<<(31-k) {
			t.Fatal(k, p)
		}
	}
	if p := v.Lose(); p != (veil.Piece{}) {
		t.Fatal(p)
	}
}

// Promise 19.1: ahead of any good frame silence stands in, and what is lost is counted all the same.
func TestAhead(t *testing.T) {
	var v veil.Veil
	if v.Lost() != 0 {
		t.Fatal(v.Lost())
	}
	for k := range 20 {
		if p := v.Lose(); p != (veil.Piece{}) || v.Lost() != k+1 {
			t.Fatal(k, p, v.Lost())
		}
	}
	f := loudest()
	if p := v.Good(f); p != pieceOf(f) || v.Lost() != 0 {
		t.Fatal(p, v.Lost())
	}
	if p := v.Lose(); p == (veil.Piece{}) || v.Lost() != 1 {
		t.Fatal(p, v.Lost())
	}
}

// Promise 19.1: a good frame is the last good one, however many were lost ahead of it, and takes the place of another.
func TestGood(t *testing.T) {
	a, b := alone([4]int{1, 2, 3, 0}, 1000, -1000), alone([4]int{0, 0, 0, 3}, 0, 0, 64)
	for lost := range 9 {
		l := []*api.Frame{&a}
		for range lost {
			l = append(l, nil)
		}
		for range 3 {
			l = append(l, &b)
		}
		walk(t, append(l, nil, &a, &b, nil, nil, &a, nil, nil, nil, nil, nil, nil, &b, nil))
	}
}

// Promise 19.1: a good frame whose numbers are all 0 is a good one: its gains stand in, too.
func TestSilentFrame(t *testing.T) {
	loud, silent := loudest(), api.Frame{Gains: [4]int{0, 3, 0, 1}}
	walk(t, []*api.Frame{&loud, &silent, nil, nil, nil, nil, nil, nil})
	walk(t, []*api.Frame{&loud, {}, nil, nil, nil, nil, nil, nil})
}

// Promise 19.1: Lost goes on behind silence.
func TestLostLong(t *testing.T) {
	v := &veil.Veil{}
	v.Good(loudest())
	for k := 1; k <= 200000; k++ {
		if p := v.Lose(); v.Lost() != k || k > 4 && p != (veil.Piece{}) {
			t.Fatal(k, p, v.Lost())
		}
	}
	v.Good(loudest())
	if v.Lost() != 0 {
		t.Fatal(v.Lost())
	}
}

// Promise 19.1: Lost tells, and changes nothing.
func TestLostAlone(t *testing.T) {
	a, b := &veil.Veil{}, &veil.Veil{}
	f := loudest()
	a.Good(f)
	b.Good(f)
	for k := range 7 {
		for range k {
			if a.Lost() != k {
				t.Fatal(k, a.Lost())
			}
		}
		if p, q := a.Lose(), b.Lose(); p != q {
			t.Fatal(k, p, q)
		}
	}
}

// Promise 19.1: behind Clear a veil has met nothing, whatever it met ahead.
func TestClear(t *testing.T) {
	f := loudest()
	for lost := range 8 {
		v := &veil.Veil{}
		v.Clear()
		v.Good(f)
		for range lost {
			v.Lose()
		}
		v.Clear()
		if *v != (veil.Veil{}) || v.Lost() != 0 {
			t.Fatal(lost, v.Lost())
		}
		v.Clear()
		for k := 1; k <= 6; k++ {
			if p := v.Lose(); p != (veil.Piece{}) || v.Lost() != k {
				t.Fatal(lost, k, p, v.Lost())
			}
		}
		v.Clear()
		l := []*api.Frame{&f, nil}
		step(t, v, l[:1])
		step(t, v, l)
	}
}

// Promise 19.1: of a nil veil the zero piece, and 0; Clear does nothing.
func TestNil(t *testing.T) {
	var v *veil.Veil
	for range 3 {
		for _, f := range []api.Frame{{}, loudest(), alone([4]int{1, 1, 1, 1}, 5)} {
			if p := v.Good(f); p != (veil.Piece{}) {
				t.Fatal(p)
			}
			if p := v.Lose(); p != (veil.Piece{}) || v.Lost() != 0 {
				t.Fatal(p, v.Lost())
			}
			v.Clear()
		}
	}
}

// Promise 19.1, in any order: had, lost and cleared, against what is found by looking back.
func TestAnyOrder(t *testing.T) {
	c := chance(2)
	for range 300 {
		v := &veil.Veil{}
		var l []*api.Frame
		for range 100 {
			if c.below(20) == 0 {
				v.Clear()
				l = nil
				continue
			}
			l = append(l, c.row(1, 4)...)
			step(t, v, l)
		}
	}
}

// Promise 19.2: of no frames no pieces.
func TestRowNone(t *testing.T) {
	for _, l := range [][]*api.Frame{nil, {}, make([]*api.Frame, 0, 5)} {
		if got := veil.Row(l...); len(got) != 0 {
			t.Fatal(got)
		}
	}
	if got := veil.Row(); len(got) != 0 {
		t.Fatal(got)
	}
}

// Promises 19.2 and 19.3: each way in which up to twelve frames are had and lost.
func TestRowAll(t *testing.T) {
	c := chance(3)
	for n := 1; n <= 12; n++ {
		for had := range 1 << n {
			l := make([]*api.Frame, n)
			for i := range l {
				if had>>i&1 == 1 {
					f := c.frame()
					l[i] = &f
				}
			}
			walk(t, l)
		}
	}
}

// Promise 19.2: rows of many frames, of which few and many are lost.
func TestRowLong(t *testing.T) {
	c := chance(4)
	for _, one := range []int{1, 2, 3, 5, 9, 40} {
		for range 20 {
			walk(t, c.row(c.below(400), one))
		}
	}
	if got := veil.Row(make([]*api.Frame, 1<<16)...); len(got) != 1<<16 || slices.ContainsFunc(got, func(p veil.Piece) bool { return p != veil.Piece{} }) {
		t.Fatal(len(got))
	}
}

// Promise 19.2: one frame may stand in a row again and again; each call begins anew.
func TestRowAgain(t *testing.T) {
	f := loudest()
	l := []*api.Frame{nil, &f, nil, &f, &f, nil, nil, nil, nil, nil, &f}
	for range 3 {
		walk(t, l)
		if p := veil.Row(nil); len(p) != 1 || p[0] != (veil.Piece{}) {
			t.Fatal(p)
		}
	}
}

// Promise 19.3: behind four that are lost there is silence, until a good one comes.
func TestSilence(t *testing.T) {
	c := chance(5)
	for lost := range 40 {
		a, b := c.frame(), c.frame()
		a.Gains, a.Q[0], a.Width[0], a.Scale[0], a.Tones = [4]int{1, 1, 1, 1}, 1000, 24, 4, nil
		l := append([]*api.Frame{&a}, make([]*api.Frame, lost)...)
		got := veil.Row(append(l, &b)...)
		for k := 1; k <= lost; k++ {
			if (got[k] == veil.Piece{}) != (k > 4) {
				t.Fatalf("%d lost: %v", k, got[k])
			}
		}
		if got[lost+1] != pieceOf(b) {
			t.Fatal(got[lost+1])
		}
	}
}

// Rule R3: frames that are handed in are not changed, nor kept: what becomes of them behind a call changes nothing.
func TestFramesStay(t *testing.T) {
	f, want := loudest(), loudest()
	v := &veil.Veil{}
	veil.Of(f)
	v.Good(f)
	l := []*api.Frame{&f, nil, &f}
	row := veil.Row(l...)
	for range 6 {
		v.Lose()
	}
	if !reflect.DeepEqual(f, want) || l[0] != &f || l[1] != nil || l[2] != &f {
		t.Fatal(f, l)
	}
	first := v.Good(f)
	f.Tones[0].Value, f.Tones[1].Index, f.Q[0], f.Gains[0] = 0, 3, 0, 0
	l[0] = nil
	if p := v.Lose(); p.Spectrum[0] != 1<<30 || p.Spectrum[15] != -1<<30 || p.Gains != want.Gains || first != pieceOf(want) {
		t.Fatal(p, first)
	}
	if row[0] != pieceOf(want) || row[2] != pieceOf(want) {
		t.Fatal(row)
	}
}

// Rule R3: what was answered is one's own, and changing it changes no later answer.
func TestAnswersAreNew(t *testing.T) {
	f := loudest()
	v := &veil.Veil{}
	p := v.Good(f)
	p.Spectrum, p.Gains = api.Block{}, [4]int{}
	l := []*api.Frame{&f, nil}
	q := v.Lose()
	if want, _ := standing(l); q != want {
		t.Fatal(q)
	}
	a, b := veil.Row(l...), veil.Row(l...)
	a[0], a[1] = veil.Piece{}, veil.Piece{}
	if want, _ := standing(l); b[0] != pieceOf(f) || b[1] != want {
		t.Fatal(b)
	}
}

// Rule R4: veils are apart from one another, and a copy goes on by itself.
func TestApart(t *testing.T) {
	c := chance(6)
	var a, b veil.Veil
	x, y := c.frame(), loudest()
	a.Good(x)
	b.Good(y)
	a.Lose()
	copied := a
	a.Lose()
	a.Lose()
	a.Clear()
	if want, _ := standing([]*api.Frame{&x, nil, nil}); copied.Lost() != 1 || copied.Lose() != want {
		t.Fatal(copied.Lost())
	}
	if want, _ := standing([]*api.Frame{&y, nil}); b.Lost() != 0 || b.Lose() != want {
		t.Fatal(b.Lost())
	}
	if a.Lost() != 0 || a.Lose() != (veil.Piece{}) {
		t.Fatal(a.Lost())
	}
}

// Rule R1: of frames that may not be each call ends without a panic; it counts them as good ones.
func TestWrongFrames(t *testing.T) {
	far := []int64{math.MinInt64, math.MinInt64 + 1, -1 << 62, -1 << 40, -1 << 31, -1, 0, 1, 16, 1 << 31, 1 << 40, 1 << 62, math.MaxInt64}
	var l []*api.Frame
	for _, v := range far {
		n := int(v)
		for _, f := range []api.Frame{
			{Gains: [4]int{n, n, n, n}},
			{Scale: [4]int{n, n, n, n}, Q: api.Block{v, -1, 1}},
			{Width: [4]int{n, n, n, n}, Q: api.Block{v, v, v, v}},
			{Q: api.Block{0: v, 5: v, 15: v}, Scale: [4]int{23, 0, 0, 23}},
			{Tones: []api.Tone{{Index: n, Value: v}}},
			{Tones: []api.Tone{{Index: 1, Value: v}, {Index: 1, Value: v}, {Index: 0, Value: v}, {Index: n, Value: v}}},
			{Tones: make([]api.Tone, 100)},
		} {
			l = append(l, &f)
		}
	}
	v := &veil.Veil{}
	for _, f := range l {
		veil.Of(*f)
		v.Good(*f)
		if v.Lost() != 0 {
			t.Fatal(f, v.Lost())
		}
		for k := 1; k <= 6; k++ {
			if p := v.Lose(); v.Lost() != k || k > 4 && p != (veil.Piece{}) {
				t.Fatal(f, k, p, v.Lost())
			}
		}
	}
	if got := veil.Row(l...); len(got) != len(l) {
		t.Fatal(len(got))
	}
}
