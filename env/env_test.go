package env_test

import (
	"math"
	"slices"
	"sort"
	"testing"

	"calliope/api"
	"calliope/env"
)

// chance is a row of numbers that look like chance, and are the same in each run.
type chance uint64

func (c *chance) next() uint64 {
	*c = *c*6364136223846793005 + 1442695040888963407
	x := uint64(*c)
	return x ^ x>>29
}

func (c *chance) below(n int) int {
	return int(c.next() >> 33 % uint64(n))
}

// time is any that may be, often 0, a few samples, a power of two or about it.
func (c *chance) time(most int) int {
	switch c.below(4) {
	case 0:
		return c.below(3)
	case 1:
		return c.below(40)
	case 2:
		return min(most, max(0, 1<<c.below(21)+c.below(3)-1))
	}
	return c.below(most + 1)
}

// loud is any that may be, often one of the ends.
func (c *chance) loud() int {
	switch c.below(4) {
	case 0:
		return 0
	case 1:
		return env.Full
	}
	return c.below(env.Full + 1)
}

func (c *chance) shape(most int) env.Shape {
	return env.Shape{Attack: c.time(most), Decay: c.time(most), Sustain: c.loud(), Release: c.time(most)}
}

// begun is one of a shape that may be.
func begun(t *testing.T, s env.Shape) *env.Env {
	t.Helper()
	e, err := env.New(s)
	if err != api.OK || e == nil {
		t.Fatalf("New(%v): %v, %v", s, e, err)
	}
	return e
}

// state is what is told of one, and what its next sample is.
type state struct {
	stage int
	level int64
	next  int
}

// whole is as loud as can be, with 16 bits behind the point.
const whole = 256 * 65536

// slope is the least step of 1 at least by which so much is done in n samples: it is searched for, not divided.
func slope(over int64, n int) int64 {
	if n < 1 {
		return over
	}
	return 1 + int64(sort.Search(int(over), func(step int) bool { return int64(step+1)*int64(n) >= over }))
}

// steps is how many samples it takes to go so far by a slope: one at least, for where it begins is told, too.
func steps(over, slope int64) int {
	n := max(1, over/slope)
	for n*slope < over {
		n++
	}
	return int(n)
}

// rounded is a level without what is behind the point.
func rounded(level int64) int {
	loud := level / 65536
	if level%65536 >= 32768 {
		loud++
	}
	return int(loud)
}

// model tells an envelope by looking at how many samples were told, and how many of them when it was let go; it keeps no level.
type model struct {
	shape             env.Shape
	sustain           int64
	rise, fall, gone  int64
	risesFor, fallFor int
}

func newModel(s env.Shape) model {
	m := model{shape: s, sustain: int64(s.Sustain) * 65536}
	m.rise = slope(whole, s.Attack)
	m.fall = slope(whole-m.sustain, s.Decay)
	m.gone = slope(whole, s.Release)
	if s.Attack > 0 {
		m.risesFor = steps(whole, m.rise)
	}
	if s.Decay > 0 {
		m.fallFor = steps(whole-m.sustain, m.fall)
	}
	return m
}

// held is how it is behind n samples, if it isn't let go.
func (m model) held(n int) state {
	if n < m.risesFor {
		level := int64(n) * m.rise
		return state{env.Rise, level, rounded(level)}
	}
	if n == 0 { // it rises in 0 samples, and hasn't begun
		loud := 256
		if m.shape.Decay == 0 {
			loud = m.shape.Sustain
		}
		return state{env.Rise, 0, loud}
	}
	fallen := n - m.risesFor
	if fallen < m.fallFor {
		level := whole - int64(fallen)*m.fall
		return state{env.Fall, level, rounded(level)}
	}
	if fallen == 0 { // it falls in 0 samples, and has just risen
		return state{env.Fall, whole, m.shape.Sustain}
	}
	return state{env.Stay, m.sustain, m.shape.Sustain}
}

// letGo is how it is behind n samples, of which the first ones were told before it was let go.
func (m model) letGo(n, before int) state {
	level := m.held(before).level
	n -= before
	if m.shape.Release == 0 {
		if n == 0 {
			return state{env.Gone, level, 0}
		}
		return state{stage: env.Over}
	}
	if n >= steps(level, m.gone) {
		return state{stage: env.Over}
	}
	level -= int64(n) * m.gone
	return state{env.Gone, level, rounded(level)}
}

// at is how it is behind n samples; before is how many were told when it was let go, or below 0.
func (m model) at(n, before int) state {
	if before < 0 || n < before {
		return m.held(n)
	}
	return m.letGo(n, before)
}

// alike asks an envelope for so many samples, lets it go behind some of them, and holds it against the model.
func alike(t *testing.T, s env.Shape, samples, before int) {
	t.Helper()
	m, e := newModel(s), begun(t, s)
	for n := range samples {
		if n == before {
			e.Release()
		}
		want := m.at(n, before)
		stage, level := e.Stage(), e.Level()
		if got := (state{stage, level, e.Next()}); got != want {
			t.Fatalf("%v, let go behind %d samples, behind %d: %v, want %v", s, before, n, got, want)
		}
	}
}

func TestConstants(t *testing.T) {
	if env.Full != 256 || env.MaxTime != 1<<20 {
		t.Error(env.Full, env.MaxTime)
	}
	if env.Rise != 0 || env.Fall != 1 || env.Stay != 2 || env.Gone != 3 || env.Over != 4 {
		t.Error(env.Rise, env.Fall, env.Stay, env.Gone, env.Over)
	}
}

func TestExample(t *testing.T) {
	e := begun(t, env.Plain())
	if a, b := e.Next(), e.Next(); a != 256 || b != 256 {
		t.Error(a, b)
	}
	e.Release()
	if c := e.Next(); c != 0 {
		t.Error(c)
	}
}

// known are what the chapter's words come to, counted by hand.
func TestKnown(t *testing.T) {
	for _, k := range []struct {
		shape  env.Shape
		before int
		want   []int
	}{
		{env.Shape{}, -1, []int{0, 0}},
		{env.Shape{Sustain: 7}, -1, []int{7, 7}},
		{env.Shape{Attack: 1, Sustain: 256}, -1, []int{0, 256, 256}},
		{env.Shape{Attack: 1, Sustain: 7}, -1, []int{0, 7, 7}},
		{env.Shape{Attack: 2, Decay: 1}, -1, []int{0, 128, 256, 0, 0}},
		{env.Shape{Decay: 2, Sustain: 128}, -1, []int{256, 192, 128, 128}},
		{env.Shape{Decay: 3, Sustain: 255}, -1, []int{256, 256, 255, 255}},
		{env.Shape{Decay: 2, Sustain: 255}, -1, []int{256, 256, 255, 255}}, // 255 and a half is 256
		{env.Shape{Attack: 3}, -1, []int{0, 85, 171, 0}},
		{env.Shape{Attack: 512, Sustain: 9}, -1, []int{0, 1, 1, 2, 2, 3}}, // a half is 1
		{env.Shape{Sustain: 256, Release: 2}, 1, []int{256, 256, 128, 0, 0}},
		{env.Shape{Sustain: 128, Release: 2}, 1, []int{128, 128, 0, 0}},
		{env.Shape{Sustain: 128, Release: 4}, 1, []int{128, 128, 64, 0, 0}},
		{env.Shape{Sustain: 1, Release: 512}, 1, []int{1, 1, 1, 0, 0}},
		{env.Shape{Attack: 4, Release: 8}, 2, []int{0, 64, 128, 96, 64, 32, 0, 0}},
		{env.Shape{Attack: 4, Release: 8}, 0, []int{0, 0, 0}},
		{env.Shape{Sustain: 256, Release: 8}, 0, []int{0, 0, 0}},
		{env.Shape{Attack: 2, Decay: 4, Release: 2}, 3, []int{0, 128, 256, 192, 64, 0, 0}},
	} {
		e := begun(t, k.shape)
		for i, want := range k.want {
			if i == k.before {
				e.Release()
			}
			if got := e.Next(); got != want {
				t.Errorf("%v, let go behind %d: the sample %d is %d, want %d", k.shape, k.before, i, got, want)
			}
		}
	}
}

func TestPlain(t *testing.T) {
	if got := env.Plain(); got != (env.Shape{Attack: 0, Decay: 0, Sustain: 256, Release: 0}) || !env.Right(got) {
		t.Error(got)
	}
}

// about are numbers about 0, about another one, and far from both.
func about(most int) []int {
	return []int{math.MinInt, math.MinInt32, -most - 1, -most, -2, -1, 0, 1, 2, most / 2, most - 1, most, most + 1, most + 2, 2 * most, math.MaxInt32, 1 << 32, 1<<32 + most, math.MaxInt - 1, math.MaxInt}
}

// TestRight asks for each field's ends, with the other fields at theirs.
func TestRight(t *testing.T) {
	const most = 1 << 20
	for _, others := range []env.Shape{{}, {Sustain: 256}, {Attack: most, Decay: most, Sustain: 256, Release: most}, {Attack: 3, Decay: 4, Sustain: 5, Release: 6}} {
		for i, field := range []func(s *env.Shape) *int{
			func(s *env.Shape) *int { return &s.Attack },
			func(s *env.Shape) *int { return &s.Decay },
			func(s *env.Shape) *int { return &s.Sustain },
			func(s *env.Shape) *int { return &s.Release },
		} {
			bound := most
			if i == 2 {
				bound = 256
			}
			for _, n := range append(about(bound), 257, 256, 255) {
				s := others
				*field(&s) = n
				want := n >= 0 && n < bound+1
				if got := env.Right(s); got != want {
					t.Errorf("Right(%v): %v", s, got)
				}
				e, err := env.New(s)
				if want && (err != api.OK || e == nil) || !want && (err != api.ErrArg || e != nil) {
					t.Errorf("New(%v): %v, %v", s, e, err)
				}
			}
		}
	}
}

// TestBegins: one that begins rises, and is silent, whatever its shape.
func TestBegins(t *testing.T) {
	c := chance(1)
	for range 200 {
		s := c.shape(env.MaxTime)
		e := begun(t, s)
		for range 2 { // asking changes nothing
			if e.Stage() != env.Rise || e.Level() != 0 {
				t.Fatalf("%v: %d, %d", s, e.Stage(), e.Level())
			}
		}
	}
}

// TestSmall holds each shape of few samples against the model, let go behind each number of samples.
func TestSmall(t *testing.T) {
	for attack := range 6 {
		for decay := range 6 {
			for release := range 6 {
				for _, sustain := range []int{0, 1, 2, 100, 127, 128, 255, 256} {
					s := env.Shape{Attack: attack, Decay: decay, Sustain: sustain, Release: release}
					for before := -1; before < 14; before++ {
						alike(t, s, 24, before)
					}
				}
			}
		}
	}
}

// TestAny holds any shapes of some hundred samples against the model.
func TestAny(t *testing.T) {
	c := chance(2)
	rounds := 3000
	if testing.Short() {
		rounds = 300
	}
	for range rounds {
		s := c.shape(300)
		alike(t, s, 1000, c.below(1000)-100)
	}
}

// TestSustain holds each loudness against the model, through each stage.
func TestSustain(t *testing.T) {
	for sustain := range 257 {
		for _, time := range []int{1, 7, 64, 333} {
			s := env.Shape{Attack: time, Decay: time, Sustain: sustain, Release: time}
			alike(t, s, 3*time+10, 2*time+3)
			alike(t, s, 3*time+10, -1)
		}
	}
}

// TestLong holds the longest times, and any, against the model.
func TestLong(t *testing.T) {
	const most = 1 << 20
	if testing.Short() {
		alike(t, env.Shape{Attack: most, Decay: 3, Sustain: 9, Release: 3}, most+10, most+5)
		return
	}
	for _, sustain := range []int{0, 1, 255, 256} {
		s := env.Shape{Attack: most, Decay: most, Sustain: sustain, Release: most}
		alike(t, s, 2*most+10, -1)
		alike(t, s, 3*most+10, 2*most+5)
		alike(t, s, 2*most+10, most-1)
		alike(t, s, 2*most+10, most/2+1)
	}
	c := chance(3)
	for range 20 {
		s := c.shape(most)
		alike(t, s, 2*most, c.below(2*most))
	}
	for _, time := range []int{most - 1, most/2 + 1, 1<<24/3 - 1, 65537, 65535} {
		time = min(time, most)
		alike(t, env.Shape{Attack: time, Decay: time, Sustain: 77, Release: time}, 3*time+10, 2*time+5)
	}
}

// TestNextBounds: no sample is below 0 or above 256, and no level either.
func TestNextBounds(t *testing.T) {
	c := chance(4)
	for range 500 {
		s := c.shape(200)
		e := begun(t, s)
		before := c.below(600)
		for n := range 900 {
			if n == before {
				e.Release()
			}
			v, level := e.Next(), e.Level()
			if v < 0 || v > 256 || level < 0 || level > whole {
				t.Fatalf("%v, let go behind %d, the sample %d: %d, %d", s, before, n, v, level)
			}
		}
	}
}

// TestNoLonger: 22.3, by how many samples it rises, and is heard when it is let go.
func TestNoLonger(t *testing.T) {
	c := chance(5)
	for i := range 2000 {
		s := c.shape(500)
		if i < 50 {
			s.Attack, s.Release = i, i
		}
		e := begun(t, s)
		rises := 0
		for e.Stage() == env.Rise {
			e.Next()
			rises++
		}
		if rises > s.Attack+1 || s.Attack > 0 && rises > s.Attack {
			t.Fatalf("%v rises for %d samples", s, rises)
		}
		for range c.below(800) {
			e.Next()
		}
		e.Release()
		heard := 0
		for e.Stage() != env.Over {
			e.Next()
			heard++
		}
		if heard > s.Release+1 || e.Level() != 0 {
			t.Fatalf("%v, let go, is over behind %d samples, at %d", s, heard, e.Level())
		}
		if l := e.Run(20); slices.Max(l) != 0 {
			t.Fatalf("%v is over, and heard: %v", s, l)
		}
	}
}

// TestReleaseAgain: what is let go stays so, and what is over is over; nothing is heard twice.
func TestReleaseAgain(t *testing.T) {
	c := chance(6)
	for range 500 {
		s := c.shape(60)
		a, b := begun(t, s), begun(t, s)
		before := c.below(200)
		a.Run(before)
		b.Run(before)
		a.Release()
		b.Release()
		for n := range 150 {
			b.Release()
			if a.Stage() != b.Stage() || a.Level() != b.Level() || a.Next() != b.Next() {
				t.Fatalf("%v, let go behind %d, and again: otherwise behind %d more", s, before, n)
			}
		}
		if a.Stage() != env.Over || b.Stage() != env.Over {
			t.Fatalf("%v: %d, %d", s, a.Stage(), b.Stage())
		}
	}
}

// TestReleaseLevel: to let it go changes no level, and it is gone at once, in each stage but the last one.
func TestReleaseLevel(t *testing.T) {
	s := env.Shape{Attack: 5, Decay: 5, Sustain: 90, Release: 5}
	met := map[int]int{}
	for n := range 20 {
		e := begun(t, s)
		e.Run(n)
		met[e.Stage()]++
		level := e.Level()
		e.Release()
		if e.Stage() != env.Gone || e.Level() != level {
			t.Errorf("let go behind %d: %d, %d, want %d", n, e.Stage(), e.Level(), level)
		}
		e.Run(20)
		e.Release()
		if e.Stage() != env.Over || e.Level() != 0 {
			t.Errorf("over, and let go: %d, %d", e.Stage(), e.Level())
		}
	}
	if met[env.Rise] == 0 || met[env.Fall] == 0 || met[env.Stay] == 0 {
		t.Error(met)
	}
}

// TestRun: a run is that many samples, one by one, in whatever parts.
func TestRun(t *testing.T) {
	c := chance(7)
	for range 400 {
		s := c.shape(100)
		one, run := begun(t, s), begun(t, s)
		for range 30 {
			if c.below(12) == 0 {
				one.Release()
				run.Release()
			}
			n := c.below(20)
			l := run.Run(n)
			if len(l) != n {
				t.Fatalf("Run(%d): %d samples", n, len(l))
			}
			for i, got := range l {
				if want := one.Next(); got != want {
					t.Fatalf("%v, Run(%d)[%d]: %d, want %d", s, n, i, got, want)
				}
			}
			if one.Stage() != run.Stage() || one.Level() != run.Level() {
				t.Fatalf("%v behind a run of %d: %d, %d; want %d, %d", s, n, run.Stage(), run.Level(), one.Stage(), one.Level())
			}
		}
	}
}

// TestLongestRun: 2^20 samples are told; of more, and of fewer than 0, there are none, and nothing goes on.
func TestLongestRun(t *testing.T) {
	s := env.Shape{Attack: 1 << 19, Decay: 1 << 18, Sustain: 200, Release: 9}
	one, run := begun(t, s), begun(t, s)
	for _, n := range []int{-1, -2, math.MinInt32, math.MinInt, 1<<20 + 1, 1 << 31, 1 << 32, 1<<32 + 1, 1 << 40, math.MaxInt} {
		if l := run.Run(n); len(l) != 0 || run.Stage() != env.Rise || run.Level() != 0 {
			t.Errorf("Run(%d): %d samples, then %d, %d", n, len(l), run.Stage(), run.Level())
		}
	}
	run.Next()
	one.Next()
	if l := run.Run(0); len(l) != 0 || run.Level() != one.Level() {
		t.Errorf("Run(0): %v, then %d", l, run.Level())
	}
	l := run.Run(1 << 20)
	if len(l) != 1<<20 {
		t.Fatalf("Run(2^20): %d samples", len(l))
	}
	for i, got := range l {
		if want := one.Next(); got != want {
			t.Fatalf("Run(2^20)[%d]: %d, want %d", i, got, want)
		}
	}
}

// TestMemory: a run is new memory (R3).
func TestMemory(t *testing.T) {
	e := begun(t, env.Shape{Attack: 3, Decay: 4, Sustain: 9})
	first := e.Run(6)
	kept := slices.Clone(first)
	second := e.Run(6)
	if !slices.Equal(first, kept) {
		t.Errorf("%v, was %v", first, kept)
	}
	kept = slices.Clone(second)
	first = first[:cap(first)]
	for i := range first {
		first[i] = -1
	}
	if third := e.Run(6); !slices.Equal(second, kept) || slices.Min(third) != 9 {
		t.Errorf("%v, was %v; %v", second, kept, third)
	}
}

// TestApart: what one is told changes no other one (R4).
func TestApart(t *testing.T) {
	c := chance(8)
	s := env.Shape{Attack: 7, Decay: 5, Sustain: 77, Release: 6}
	var l []*env.Env
	for range 4 {
		l = append(l, begun(t, s))
	}
	m := newModel(s)
	told, before := make([]int, len(l)), []int{-1, -1, -1, -1}
	for range 300 {
		i := c.below(len(l))
		if before[i] < 0 && told[i] > 0 && c.below(40) == 0 {
			l[i].Release()
			before[i] = told[i]
		}
		want := m.at(told[i], before[i])
		stage, level := l[i].Stage(), l[i].Level()
		if got := (state{stage, level, l[i].Next()}); got != want {
			t.Fatalf("the one %d behind %d: %v, want %v", i, told[i], got, want)
		}
		told[i]++
	}
}

// TestCopied: a copy goes on by itself.
func TestCopied(t *testing.T) {
	s := env.Shape{Attack: 9, Decay: 9, Sustain: 50, Release: 9}
	e := begun(t, s)
	e.Run(5)
	other := *e
	other.Release()
	other.Run(30)
	if want := newModel(s).at(5, -1); e.Stage() != want.stage || e.Level() != want.level || e.Next() != want.next {
		t.Error(e.Stage(), e.Level(), want)
	}
}

// TestAnyOrder asks for anything in any order.
func TestAnyOrder(t *testing.T) {
	c := chance(9)
	rounds := 4000
	if testing.Short() {
		rounds = 400
	}
	for range rounds {
		s := c.shape(30)
		m, e := newModel(s), begun(t, s)
		told, before := 0, -1
		for range 40 {
			want := m.at(told, before)
			switch c.below(8) {
			case 0, 1:
				if got := e.Next(); got != want.next {
					t.Fatalf("%v, let go behind %d, behind %d: %d, want %d", s, before, told, got, want.next)
				}
				told++
			case 2:
				if got := e.Stage(); got != want.stage {
					t.Fatalf("%v, let go behind %d, behind %d: stage %d, want %d", s, before, told, got, want.stage)
				}
			case 3:
				if got := e.Level(); got != want.level {
					t.Fatalf("%v, let go behind %d, behind %d: level %d, want %d", s, before, told, got, want.level)
				}
			case 4, 5:
				n := c.below(9)
				for i, got := range e.Run(n) {
					if want := m.at(told+i, before).next; got != want {
						t.Fatalf("%v, let go behind %d, behind %d: %d, want %d", s, before, told+i, got, want)
					}
				}
				told += n
			case 6:
				e.Run(-1 - c.below(1000))
				e.Run(1<<20 + 1 + c.below(1000))
			case 7:
				if c.below(4) == 0 {
					e.Release()
					if before < 0 {
						before = told
					}
				}
			}
		}
	}
}

// TestNil: of a nil one it is over, and silent.
func TestNil(t *testing.T) {
	var e *env.Env
	for range 3 {
		if e.Stage() != env.Over || e.Level() != 0 || e.Next() != 0 {
			t.Error(e.Stage(), e.Level(), e.Next())
		}
		e.Release()
	}
	if l := e.Run(5); !slices.Equal(l, make([]int, 5)) {
		t.Error(l)
	}
	for _, n := range []int{0, -1, math.MinInt, 1<<20 + 1, math.MaxInt} {
		if l := e.Run(n); len(l) != 0 {
			t.Errorf("Run(%d): %d samples", n, len(l))
		}
	}
}

// TestUnmade: one that nobody made is as one of the shape of noughts alone.
func TestUnmade(t *testing.T) {
	for before := -1; before < 4; before++ {
		m, e := newModel(env.Shape{}), new(env.Env)
		for n := range 6 {
			if n == before {
				e.Release()
			}
			want := m.at(n, before)
			stage, level := e.Stage(), e.Level()
			if got := (state{stage, level, e.Next()}); got != want {
				t.Errorf("let go behind %d, behind %d: %v, want %v", before, n, got, want)
			}
		}
	}
}
