package wave_test

import (
	"math"
	"math/big"
	"slices"
	"strings"
	"testing"

	"calliope/api"
	"calliope/wave"
)

const (
	low  = -32768 // the least sample
	high = 32767  // the greatest one
	long = 1 << 20
	// letters are all bytes that a name may have.
	letters = "!\"#$%&'()*+,-./0123456789:;<=>?@ABCDEFGHIJKLMNOPQRSTUVWXYZ[\\]^_`abcdefghijklmnopqrstuvwxyz{|}~"
)

// chance is a row of numbers that look like chance, and are the same in each run.
type chance uint64

func (c *chance) next() uint64 {
	*c = *c*6364136223846793005 + 1442695040888963407
	x := uint64(*c)
	return x ^ x>>29
}

func (c *chance) below(n int) int {
	return int(c.next() >> 33 % uint64(n))
}

// name is one of so many bytes.
func (c *chance) name(length int) string {
	b := make([]byte, length)
	for i := range b {
		b[i] = letters[c.below(len(letters))]
	}
	return string(b)
}

// samples are so many, the least and the greatest among them.
func (c *chance) samples(length int) []int {
	l := make([]int, length)
	for i := range l {
		l[i] = []int{low, high, 0, low + c.below(high-low+1)}[c.below(4)]
	}
	return l
}

// sample is one that may be.
func (c *chance) sample() api.Sample {
	length := 1 + c.below(40)
	s := api.Sample{
		Name: c.name(1 + c.below(32)),
		Rate: []int{1, 192000, 1 + c.below(192000)}[c.below(3)],
		Data: [][]int{c.samples(length)},
	}
	if c.below(2) == 0 {
		s.Data = append(s.Data, c.samples(length))
	}
	if c.below(2) == 0 {
		s.Loop, s.LoopStart = true, c.below(length)
		s.LoopEnd = s.LoopStart + 1 + c.below(length-s.LoopStart)
	}
	return s
}

// plain is a sample of so many noughts in each of its channels, that does not go round.
func plain(lengths ...int) api.Sample {
	s := api.Sample{Name: "plain", Rate: 8000}
	for _, n := range lengths {
		s.Data = append(s.Data, make([]int, n))
	}
	return s
}

// named are samples of these names, each told from the others by what it has.
func named(names ...string) []api.Sample {
	var l []api.Sample
	for i, name := range names {
		l = append(l, api.Sample{Name: name, Rate: 1 + i, Data: [][]int{{i, -i}, {i, i}}})
	}
	return l
}

// copied is a sample that shares nothing with another one.
func copied(s api.Sample) api.Sample {
	var data [][]int
	for _, channel := range s.Data {
		data = append(data, append([]int(nil), channel...))
	}
	s.Data = data
	return s
}

// copies are samples that share nothing with others.
func copies(l []api.Sample) []api.Sample {
	var all []api.Sample
	for _, s := range l {
		all = append(all, copied(s))
	}
	return all
}

// same tells whether two samples are alike.
func same(a, b api.Sample) bool {
	return a.Name == b.Name && a.Rate == b.Rate && a.Loop == b.Loop && a.LoopStart == b.LoopStart && a.LoopEnd == b.LoopEnd && slices.EqualFunc(a.Data, b.Data, slices.Equal[[]int])
}

// alike tells whether the samples of two lists are.
func alike(a, b []api.Sample) bool {
	return slices.EqualFunc(a, b, same)
}

// far are numbers far beyond what anything has.
func far() []int {
	return []int{math.MinInt, math.MinInt + 1, -1 << 32, -1 << 31, 1 << 31, 1 << 32, 1<<32 + 5, 1 << 62, math.MaxInt - 1, math.MaxInt}
}

// row is where the places of a sample lie, from 0 on, one by one: behind the last of a round comes the first of the next one.
func row(m api.Meta, count int) []int {
	var l []int
	at := 0
	for range count {
		if at == m.Length && !m.Loop {
			at = -1
		}
		l = append(l, at)
		if at >= 0 {
			at++
		}
		if m.Loop && at == m.LoopEnd {
			at = m.LoopStart
		}
	}
	return l
}

// lies is where a place lies, by numbers of any length: of one that goes round as many rounds are taken from it as leave it in the first one.
func lies(m api.Meta, at int64) int {
	if at < int64(m.Length) && !m.Loop || at < int64(m.LoopEnd) {
		return int(at)
	}
	if !m.Loop {
		return -1
	}
	from, to := big.NewInt(int64(m.LoopStart)), big.NewInt(int64(m.LoopEnd))
	over := new(big.Int).Sub(big.NewInt(at), to)
	over.Mod(over, to.Sub(to, from))
	return int(over.Add(over, from).Int64())
}

// loops are all Metas of up to so many samples that may be, by their loops.
func loops(most int) []api.Meta {
	var l []api.Meta
	for n := 1; n <= most; n++ {
		m := api.Meta{Name: "round", Length: n, Rate: 8000, Channels: 1}
		l = append(l, m)
		m.Loop = true
		for m.LoopStart = range n {
			for m.LoopEnd = m.LoopStart + 1; m.LoopEnd <= n; m.LoopEnd++ {
				l = append(l, m)
			}
		}
	}
	return l
}

func wantName(t *testing.T, s string, want bool) {
	t.Helper()
	if got := wave.IsName(s); got != want {
		t.Errorf("IsName(%q) = %t", s, got)
	}
}

func wantCheck(t *testing.T, s api.Sample, want api.Errno) {
	t.Helper()
	if got := wave.Check(s); got != want {
		t.Errorf("Check of %q, rate %d, %d channels of %d samples, loop %t from %d to %d = %v; want %v", s.Name, s.Rate, len(s.Data), wave.Length(s), s.Loop, s.LoopStart, s.LoopEnd, got, want)
	}
}

func wantAll(t *testing.T, l []api.Sample, want api.Errno) {
	t.Helper()
	if got := wave.CheckAll(l...); got != want {
		t.Errorf("CheckAll of %d samples = %v; want %v", len(l), got, want)
	}
}

func wantSorted(t *testing.T, l, want []api.Sample) {
	t.Helper()
	if got := wave.Sort(l...); !alike(got, want) {
		t.Errorf("Sort(%v) = %v; want %v", l, got, want)
	}
}

func wantRight(t *testing.T, m api.Meta, want bool) {
	t.Helper()
	if got := wave.RightMeta(m); got != want {
		t.Errorf("RightMeta(%+v) = %t", m, got)
	}
}

func wantUnroll(t *testing.T, m api.Meta, at int64, want int) {
	t.Helper()
	if got := wave.Unroll(m, at); got != want {
		t.Errorf("Unroll(%+v, %d) = %d; want %d", m, at, got, want)
	}
}

func wantUnrolled(t *testing.T, m api.Meta, l []int, from int64, n int, want []int) {
	t.Helper()
	if got := wave.Unrolled(m, l, from, n); !slices.Equal(got, want) {
		t.Errorf("Unrolled(%+v, %d, %d, %d) = %d; want %d", m, l, from, n, got, want)
	}
}

// Promise 14.1, IsName: each byte, alone and at each place of names of each length.
func TestIsNameBytes(t *testing.T) {
	for n := 1; n <= 32; n++ {
		for at := range n {
			b := []byte(strings.Repeat("x", n))
			for v := range 256 {
				b[at] = byte(v)
				wantName(t, string(b), strings.IndexByte(letters, byte(v)) >= 0)
			}
		}
	}
	if len(letters) != 126-33+1 {
		t.Error(len(letters))
	}
}

// Promise 14.1, IsName: a name has 1 to 32 bytes.
func TestIsNameLength(t *testing.T) {
	for n := range 300 {
		wantName(t, strings.Repeat("~", n), n > 0 && n < 33)
		wantName(t, strings.Repeat("!", n), n > 0 && n < 33)
		wantName(t, strings.Repeat(" ", n), false)
	}
	if wave.IsName(strings.Repeat("a", 1<<20)) {
		t.Error("a name of 2^20 bytes")
	}
}

// Promise 14.1, IsName: runes of many bytes, and bytes that are no rune.
func TestIsNameRunes(t *testing.T) {
	for _, s := range []string{"é", "a\u00a0", "日本", "\xff", "a\x80b", "a\x00", "\x7f", "a b", "\t", "a\n"} {
		wantName(t, s, false)
	}
	for _, s := range []string{"a", "kick", "Kick-01.wav", "!", "~", "\"", "\\"} {
		wantName(t, s, true)
	}
}

// Promise 14.1, Length: the first channel's, whatever the others have.
func TestLength(t *testing.T) {
	for _, x := range []struct {
		lengths []int
		want    int
	}{{nil, 0}, {[]int{0}, 0}, {[]int{0, 5}, 0}, {[]int{1}, 1}, {[]int{5, 0}, 5}, {[]int{3, 9}, 3}, {[]int{long + 1}, long + 1}, {[]int{7, 1, 2}, 7}} {
		if got := wave.Length(plain(x.lengths...)); got != x.want {
			t.Errorf("Length of %d samples a channel = %d; want %d", x.lengths, got, x.want)
		}
	}
	if got := wave.Length(api.Sample{Data: [][]int{}}) + wave.Length(api.Sample{Data: [][]int{nil}}); got != 0 {
		t.Error(got)
	}
}

// Promise 14.1, Check: any samples that may be; their Metas are right, and they may be packed.
func TestCheckAny(t *testing.T) {
	c := chance(1)
	for range 2000 {
		s := c.sample()
		wantCheck(t, s, api.OK)
		wantAll(t, []api.Sample{s}, api.OK)
		wantRight(t, wave.Meta(s), true)
	}
}

// Promise 14.1, Check: what is wrong with several things has the error of what comes first.
func TestCheckOrder(t *testing.T) {
	faults := []struct {
		spoil func(s *api.Sample)
		want  api.Errno
	}{
		{func(s *api.Sample) { s.Name = "a b" }, api.ErrName},
		{func(s *api.Sample) { s.Rate = 0 }, api.ErrRate},
		{func(s *api.Sample) { s.Data = append(s.Data, s.Data[1]) }, api.ErrSize},
		{func(s *api.Sample) { s.LoopEnd = 7 }, api.ErrLoop},
		{func(s *api.Sample) { s.Data[1] = s.Data[1][:5] }, api.ErrSize},
		{func(s *api.Sample) { s.Data[0][0] = high + 1 }, api.ErrRange},
	}
	for set := range 1 << len(faults) {
		s := plain(6, 6)
		s.Loop, s.LoopEnd = true, 6
		want := api.OK
		for k, fault := range faults {
			if set>>k&1 == 0 {
				continue
			}
			fault.spoil(&s)
			if want == api.OK {
				want = fault.want
			}
		}
		wantCheck(t, s, want)
		wantAll(t, []api.Sample{s}, want)
	}
}

// Promise 14.1, Check: names that are none.
func TestCheckName(t *testing.T) {
	s := plain(3)
	for _, name := range []string{"", " ", "a b", "\x7f", "é", strings.Repeat("n", 33)} {
		s.Name = name
		wantCheck(t, s, api.ErrName)
	}
	s.Name = strings.Repeat("n", 32)
	wantCheck(t, s, api.OK)
}

// Promise 14.1, Check: the least and the greatest rate, and those beyond.
func TestCheckRate(t *testing.T) {
	s := plain(3)
	for _, rate := range []int{1, 2, 8000, 44100, 191999, 192000} {
		s.Rate = rate
		wantCheck(t, s, api.OK)
	}
	for _, rate := range append(far(), -192000, -1, 0, 192001, 1<<32+8000) {
		s.Rate = rate
		wantCheck(t, s, api.ErrRate)
	}
}

// Promise 14.1, Check: one or two channels, of 1 to 2^20 samples, each of as many.
func TestCheckSize(t *testing.T) {
	right := [][]int{{1}, {1, 1}, {2}, {40, 40}, {long}, {long, long}, {long - 1}}
	for _, lengths := range right {
		wantCheck(t, plain(lengths...), api.OK)
	}
	wrong := [][]int{
		nil, {0}, {0, 0}, {0, 1}, {1, 0}, {1, 2}, {2, 1}, {5, 6}, {6, 5},
		{1, 1, 1}, {2, 2, 2}, {1, 1, 1, 1}, {0, 0, 0}, make([]int, 300),
		{long + 1}, {long + 1, long + 1}, {long, long + 1}, {long + 1, long}, {long, long - 1}, {long - 1, long}, {2 * long},
	}
	for _, lengths := range wrong {
		wantCheck(t, plain(lengths...), api.ErrSize)
	}
	wantCheck(t, api.Sample{Name: "none", Rate: 1, Data: [][]int{nil}}, api.ErrSize)
	wantCheck(t, api.Sample{Name: "none", Rate: 1, Data: [][]int{}}, api.ErrSize)
}

// Promise 14.1, Check: a first channel that is wrong has its error ahead of the loop's, a second one behind it; so has a number of channels.
func TestCheckSizeOrder(t *testing.T) {
	for _, lengths := range [][]int{nil, {0}, {0, 4}, {4, 4, 4}, {long + 1}, {long + 1, 4}} {
		s := plain(lengths...)
		s.LoopEnd = -1
		wantCheck(t, s, api.ErrSize)
	}
	for _, lengths := range [][]int{{4, 0}, {4, 3}, {4, 5}, {4, long + 1}} {
		s := plain(lengths...)
		s.LoopEnd = -1
		wantCheck(t, s, api.ErrLoop)
		// The first channel says how far a loop may go.
		s.Loop, s.LoopEnd = true, 4
		wantCheck(t, s, api.ErrSize)
		s.LoopEnd = 5
		wantCheck(t, s, api.ErrLoop)
	}
}

// Promise 14.1, Check: all loops of five samples, and none, by where they begin and end.
func TestCheckLoop(t *testing.T) {
	may := map[[2]int]bool{}
	for from := range 5 {
		for length := 1; from+length <= 5; length++ {
			may[[2]int{from, from + length}] = true
		}
	}
	ends := append(far(), -2, -1, 0, 1, 2, 3, 4, 5, 6, 7)
	for _, from := range ends {
		for _, to := range ends {
			for _, loop := range []bool{false, true} {
				want := api.ErrLoop
				if loop && may[[2]int{from, to}] || !loop && from == 0 && to == 0 {
					want = api.OK
				}
				for _, s := range []api.Sample{plain(5), plain(5, 5)} {
					s.Loop, s.LoopStart, s.LoopEnd = loop, from, to
					wantCheck(t, s, want)
					wantRight(t, wave.Meta(s), want == api.OK)
				}
			}
		}
	}
	if len(may) != 15 {
		t.Error(len(may))
	}
}

// Promise 14.1, Check: the least and the greatest sample, and numbers beyond, at each place of each channel.
func TestCheckRange(t *testing.T) {
	for channels := 1; channels <= 2; channels++ {
		for channel := range channels {
			for at := range 20 {
				s := plain(slices.Repeat([]int{20}, channels)...)
				for _, v := range []int{low, low + 1, -1, 0, 1, high - 1, high} {
					s.Data[channel][at] = v
					wantCheck(t, s, api.OK)
				}
				for _, v := range append(far(), low-1, high+1, 65535, 65536, -65536, 1<<16+7, 1<<32+7) {
					s.Data[channel][at] = v
					wantCheck(t, s, api.ErrRange)
				}
			}
		}
	}
	s := plain(long, long)
	s.Data[1][long-1] = high + 1
	wantCheck(t, s, api.ErrRange)
}

// Promise 14.1, CheckAll: 64 samples may be, whatever is wrong with more.
func TestCheckAllFull(t *testing.T) {
	c := chance(2)
	var names []string
	for len(names) < 130 {
		if name := c.name(1 + c.below(32)); !slices.Contains(names, name) {
			names = append(names, name)
		}
	}
	l := named(names...)
	for n := range l {
		want := api.OK
		if n > 64 {
			want = api.ErrFull
		}
		wantAll(t, l[:n], want)
	}
	l[0].Name, l[1].Rate = "a b", 0
	wantAll(t, l[:64], api.ErrName)
	wantAll(t, l[:65], api.ErrFull)
	wantAll(t, make([]api.Sample, 65), api.ErrFull)
	wantAll(t, make([]api.Sample, 64), api.ErrName)
	wantAll(t, slices.Repeat(l[2:3], 64), api.ErrTwice)
	wantAll(t, slices.Repeat(l[2:3], 65), api.ErrFull)
	wantAll(t, nil, api.OK)
	wantAll(t, []api.Sample{}, api.OK)
}

// Promise 14.1, CheckAll: the first one's error, wherever it and others stand, ahead of two of one name.
func TestCheckAllFirst(t *testing.T) {
	wrong := []struct {
		s    api.Sample
		want api.Errno
	}{
		{api.Sample{Name: "a b", Rate: 1, Data: [][]int{{0}}}, api.ErrName},
		{api.Sample{Name: "a", Data: [][]int{{0}}}, api.ErrRate},
		{api.Sample{Name: "b", Rate: 1}, api.ErrSize},
		{api.Sample{Name: "c", Rate: 1, LoopEnd: 1, Data: [][]int{{0}}}, api.ErrLoop},
		{api.Sample{Name: "d", Rate: 1, Data: [][]int{{low - 1}}}, api.ErrRange},
	}
	for i, x := range wrong {
		for k, y := range wrong {
			for at := range 6 {
				for behind := at + 1; behind < 6; behind++ {
					l := named("s", "r", "s", "q", "s", "p")
					l[at], l[behind] = x.s, y.s
					wantAll(t, l, x.want)
				}
			}
			if i != k {
				wantAll(t, []api.Sample{x.s, y.s}, x.want)
			}
		}
	}
}

// Promise 14.1, CheckAll: two of one name, at each two places, are refused; names that differ in one byte, or in their lengths, are two.
func TestCheckAllTwice(t *testing.T) {
	names := []string{"z", "a", "A", "aa", "b", "a!", "~", "!", "a~", "ab", "ba", "aaa"}
	wantAll(t, named(names...), api.OK)
	for i := range names {
		for k := range i {
			l := named(names...)
			l[i].Name = l[k].Name
			wantAll(t, l, api.ErrTwice)
		}
	}
	for i := range 32 {
		b := []byte(strings.Repeat("m", 32))
		b[i] = 'n'
		wantAll(t, named(strings.Repeat("m", 32), string(b)), api.OK)
		wantAll(t, named(string(b), strings.Repeat("m", 32), string(b)), api.ErrTwice)
	}
}

// orders calls a function with each order of so many places.
func orders(n int, call func(order []int)) {
	order := make([]int, 0, n)
	var next func()
	next = func() {
		if len(order) == n {
			call(order)
			return
		}
		for i := range n {
			if !slices.Contains(order, i) {
				order = append(order, i)
				next()
				order = order[:len(order)-1]
			}
		}
	}
	next()
}

// Promise 14.2, Sort: names in each order are put in theirs, byte by byte, a shorter one ahead.
func TestSortNames(t *testing.T) {
	rising := named("!", "A", "Z", "a", "a!", "aa", "b")
	orders(len(rising), func(order []int) {
		var l []api.Sample
		for _, i := range order {
			l = append(l, rising[i])
		}
		wantSorted(t, l, rising)
	})
	wantSorted(t, nil, nil)
	wantSorted(t, rising[:1], rising[:1])
}

// Promise 14.2, Sort: those of one name stay as they stand, however many there are.
func TestSortStands(t *testing.T) {
	c := chance(3)
	for n := range 300 {
		var l []api.Sample
		for range n {
			s := c.sample()
			s.Name = []string{"a", "b", "c", "ab", "a~", "", "\xff", "\xfe", "a b"}[c.below(9)]
			l = append(l, s)
		}
		// Each one is put behind all those that don't come after it.
		var want []api.Sample
		for _, s := range l {
			at := 0
			for at < len(want) && want[at].Name <= s.Name {
				at++
			}
			want = slices.Insert(want, at, s)
		}
		wantSorted(t, l, want)
	}
}

// Promise 14.2, Sort: what no sample may be stands in its order, too, with all that it has.
func TestSortAny(t *testing.T) {
	none := api.Sample{}
	odd := api.Sample{Name: strings.Repeat("n", 100), Rate: -1, LoopStart: 9, LoopEnd: -9, Data: [][]int{nil, {1 << 40}, {}, {1, 2, 3}}}
	round := api.Sample{Name: "n", Rate: 7, Loop: true, LoopStart: 1, LoopEnd: 2, Data: [][]int{{5, 6}}}
	wantSorted(t, []api.Sample{odd, round, none}, []api.Sample{none, round, odd})
	if l := wave.Sort(odd, none); l[0].Data != nil || l[1].Data[0] != nil {
		t.Error(l)
	}
}

// Rule R3: what is handed in to Sort stays as it is, and what it answers shares nothing with that, or with itself.
func TestSortNew(t *testing.T) {
	channel := []int{1, 2, 3}
	l := []api.Sample{
		{Name: "b", Rate: 1, Data: [][]int{channel, channel}},
		{Name: "a", Rate: 2, Data: [][]int{channel}},
		{Name: "b", Rate: 3, Data: [][]int{channel, channel}},
	}
	l[2].Data = l[0].Data
	was := copies(l)
	sorted := wave.Sort(l...)
	if !alike(l, was) || !alike(sorted, []api.Sample{was[1], was[0], was[2]}) {
		t.Fatal(l, sorted)
	}
	for i := range sorted {
		for k := range sorted[i].Data {
			want := copies(sorted)
			want[i].Data[k] = []int{1, 2 + 10*(i+1) + k, 3, 4}
			sorted[i].Data[k][1] = 2 + 10*(i+1) + k
			sorted[i].Data[k] = append(sorted[i].Data[k], 4)
			if !alike(sorted, want) || !alike(l, was) {
				t.Error(i, k, sorted, l)
			}
		}
		want := copies(sorted)
		want[i].Data[0] = nil
		sorted[i].Data[0] = nil
		if !alike(sorted, want) || !alike(l, was) {
			t.Error(i, sorted, l)
		}
	}
	sorted = wave.Sort(l...)
	want := copies(sorted)
	channel[0] = 9
	l[0].Data[0] = nil
	if !alike(sorted, want) {
		t.Error(sorted)
	}
}

// Promise 14.2, Meta: all that a sample has, whether it may be or not; its places are 0.
func TestMeta(t *testing.T) {
	c := chance(4)
	for range 500 {
		s := c.sample()
		want := api.Meta{Name: s.Name, Length: len(s.Data[0]), Rate: s.Rate, Channels: len(s.Data), Loop: s.Loop, LoopStart: s.LoopStart, LoopEnd: s.LoopEnd}
		if got := wave.Meta(s); got != want {
			t.Errorf("Meta(%v) = %+v; want %+v", s, got, want)
		}
	}
	odd := api.Sample{Name: "a b\xff", Rate: -3, Loop: false, LoopStart: 9, LoopEnd: -9, Data: [][]int{{1, 2}, {}, {1, 2, 3}}}
	if got, want := wave.Meta(odd), (api.Meta{Name: "a b\xff", Length: 2, Rate: -3, Channels: 3, LoopStart: 9, LoopEnd: -9}); got != want {
		t.Errorf("Meta(%v) = %+v; want %+v", odd, got, want)
	}
	if got := wave.Meta(api.Sample{}); got != (api.Meta{}) {
		t.Errorf("Meta of nothing = %+v", got)
	}
}

// Promise 14.2, RightMeta: just the Metas of which there is a sample that may be, whatever their places.
func TestRightMeta(t *testing.T) {
	names := map[string]bool{"kick": true, "": false, "a b": false, strings.Repeat("n", 32): true, strings.Repeat("n", 33): false}
	rates := map[int]bool{-1: false, 0: false, 1: true, 192000: true, 192001: false}
	lengths := map[int]bool{0: false, 1: true, 5: true, long: true, long + 1: false}
	silence := make([]int, long+1)
	for name, isName := range names {
		for rate, isRate := range rates {
			for length, isLength := range lengths {
				for channels := range 4 {
					for to := range 7 {
						for _, loop := range []bool{false, true} {
							isLoop := loop && to > 0 && to <= length || !loop && to == 0
							want := isName && isRate && isLength && isLoop && (channels == 1 || channels == 2)
							m := api.Meta{Name: name, Length: length, Rate: rate, Channels: channels, Loop: loop, LoopEnd: to}
							wantRight(t, m, want)
							m.Sums, m.First = -1, math.MaxInt
							wantRight(t, m, want)
							s := api.Sample{Name: name, Rate: rate, Loop: loop, LoopEnd: to, Data: slices.Repeat([][]int{silence[:length]}, channels)}
							if length < 6 && want != (wave.Check(s) == api.OK) {
								t.Errorf("Check(%+v) = %v", s, wave.Check(s))
							}
						}
					}
				}
			}
		}
	}
}

// Promise 14.2, RightMeta: numbers at their ends, and beyond, that no sample has.
func TestRightMetaNumbers(t *testing.T) {
	right := api.Meta{Name: "kick", Length: 10, Rate: 8000, Channels: 2, Loop: true, LoopStart: 2, LoopEnd: 10}
	wantRight(t, right, true)
	wantRight(t, api.Meta{}, false)
	for _, v := range append(far(), -2, -1) {
		m := right
		m.Length = v
		wantRight(t, m, false)
		m = right
		m.Rate = v
		wantRight(t, m, false)
		m = right
		m.Channels = v
		wantRight(t, m, false)
		m = right
		m.LoopStart = v
		wantRight(t, m, false)
		m = right
		m.LoopEnd = v
		wantRight(t, m, false)
		m = right
		m.Sums, m.First = v, v
		wantRight(t, m, true)
	}
	long := api.Meta{Name: "x", Length: long, Rate: 1, Channels: 1, Loop: true, LoopStart: long - 1, LoopEnd: long}
	wantRight(t, long, true)
	long.LoopStart, long.LoopEnd = long.LoopEnd, long.LoopEnd+1
	wantRight(t, long, false)
}

// Promise 14.3, Unroll: all loops of up to nine samples, and none, place by place; below 0 is nowhere.
func TestUnrollPlaces(t *testing.T) {
	for _, m := range loops(9) {
		for at, want := range row(m, 60) {
			wantUnroll(t, m, int64(at), want)
		}
		for _, at := range []int64{-1, -2, -9, -10, -1 << 31, -1 << 32, -1<<62 - 5, math.MinInt64, math.MinInt64 + 1} {
			wantUnroll(t, m, at, -1)
		}
	}
}

// Promise 14.3, Unroll: places as far behind as there are.
func TestUnrollFar(t *testing.T) {
	c := chance(5)
	for _, m := range loops(9) {
		for k := range 40 {
			at := int64(math.MaxInt64 - k)
			if k%2 == 0 {
				at = int64(c.next() >> (1 + c.below(58)))
			}
			wantUnroll(t, m, at, lies(m, at))
		}
	}
	m := api.Meta{Name: "x", Length: long, Rate: 1, Channels: 1}
	wantUnroll(t, m, long-1, long-1)
	wantUnroll(t, m, long, -1)
	m.Loop, m.LoopStart, m.LoopEnd = true, 1, long
	wantUnroll(t, m, long-1, long-1)
	wantUnroll(t, m, long, 1)
	wantUnroll(t, m, math.MaxInt64, lies(m, math.MaxInt64))
	m.LoopStart, m.LoopEnd = long-1, long
	wantUnroll(t, m, math.MaxInt64, long-1)
}

// Promise 14.3: the example of the chapter, and what lies about it.
func TestUnrollExample(t *testing.T) {
	m := api.Meta{Name: "kick", Length: 6, Rate: 8000, Channels: 1, Loop: true, LoopStart: 2, LoopEnd: 5}
	for at, want := range []int{0, 1, 2, 3, 4, 2, 3, 4, 2, 3} {
		wantUnroll(t, m, int64(at), want)
	}
	wantUnrolled(t, m, []int{10, 11, 12, 13, 14, 15}, -2, 10, []int{0, 0, 10, 11, 12, 13, 14, 12, 13, 14})
	m.Loop, m.LoopStart, m.LoopEnd = false, 0, 0
	wantUnrolled(t, m, []int{10, 11, 12, 13, 14, 15}, 3, 5, []int{13, 14, 15, 0, 0})
}

// Promise 14.3: what stands in a Meta beside its length and its loop counts for nothing.
func TestUnrollBeside(t *testing.T) {
	for _, m := range loops(4) {
		bare := api.Meta{Length: m.Length, Loop: m.Loop, LoopStart: m.LoopStart, LoopEnd: m.LoopEnd}
		m.Sums, m.First, m.Channels, m.Rate = 84, 96, 2, 1
		for at := int64(-3); at < 20; at++ {
			wantUnroll(t, m, at, wave.Unroll(bare, at))
		}
	}
}

// Promise 14.3, Unrolled: all loops of up to six samples, and none, from each place on; lists that are shorter, as long as told, and longer.
func TestUnrolledAny(t *testing.T) {
	c := chance(6)
	for _, m := range loops(6) {
		places := append(make([]int, 20), row(m, 100)...)
		for i := range 20 {
			places[i] = -1
		}
		for length := range m.Length + 3 {
			l := c.samples(length)
			for from := -20; from < 40; from++ {
				var want []int
				for _, at := range places[from+20 : from+20+c.below(30)] {
					if at < 0 || at >= length {
						want = append(want, 0)
					} else {
						want = append(want, l[at])
					}
				}
				wantUnrolled(t, m, l, int64(from), len(want), want)
			}
			wantUnrolled(t, m, l, -20, 0, nil)
		}
		wantUnrolled(t, m, nil, -2, 5, make([]int, 5))
	}
}

// Promise 14.3, Unrolled: from as far as is promised, and farther for an end; numbers beyond a sample's bounds are told as they are.
func TestUnrolledFar(t *testing.T) {
	l := []int{1 << 40, -1 << 40, 2, 3, 4}
	m := api.Meta{Name: "x", Length: 5, Rate: 1, Channels: 1, Loop: true, LoopStart: 0, LoopEnd: 5}
	for _, from := range []int64{1 << 20, 1<<31 - 3, 1<<32 - 3, 1<<40 - 3, 1 << 40} {
		var want []int
		for k := range int64(12) {
			want = append(want, l[(from+k)%5])
		}
		wantUnrolled(t, m, l, from, 12, want)
		wantUnrolled(t, api.Meta{Name: "x", Length: 5, Rate: 1, Channels: 1}, l, from, 12, make([]int, 12))
	}
	for _, from := range []int64{math.MinInt64, math.MinInt64 + 3, -1 << 40, -13} {
		wantUnrolled(t, m, l, from, 12, make([]int, 12))
	}
	for k := range int64(15) {
		if got := wave.Unrolled(m, l, math.MaxInt64-k, 12); len(got) != 12 {
			t.Error(got)
		}
	}
}

// Promise 14.3, Unrolled: no number below 0, nor one that there can't be, has samples.
func TestUnrolledCount(t *testing.T) {
	for _, m := range loops(3) {
		for _, n := range []int{math.MinInt, -1 << 32, -2, -1, 0, 1 << 31, 1 << 32, 1<<32 + 1, 1 << 62, math.MaxInt} {
			if got := wave.Unrolled(m, []int{1, 2, 3}, 0, n); len(got) != 0 {
				t.Errorf("Unrolled of %d samples has %d", n, len(got))
			}
		}
	}
	const many = 1 << 22
	m := api.Meta{Name: "x", Length: 3, Rate: 1, Channels: 1, Loop: true, LoopStart: 2, LoopEnd: 3}
	l := wave.Unrolled(m, []int{1, 2, 3}, 0, many)
	if len(l) != many || l[0] != 1 || l[1] != 2 || slices.Min(l[2:]) != 3 || slices.Max(l[2:]) != 3 {
		t.Error(len(l))
	}
}

// Rule R3: what is handed in to Unrolled stays as it is, and what it answers is new.
func TestUnrolledNew(t *testing.T) {
	l := []int{5, 6, 7}
	m := api.Meta{Name: "x", Length: 3, Rate: 1, Channels: 1}
	got := wave.Unrolled(m, l, 0, 3)
	got[0] = 9
	if l[0] != 5 {
		t.Error(l)
	}
	l[1] = 8
	if !slices.Equal(got, []int{9, 6, 7}) {
		t.Error(got)
	}
}

// Promise 14.4: a place from the loop's beginning on lies where those lie that are any number of rounds behind it.
func TestRounds(t *testing.T) {
	c := chance(7)
	for _, m := range loops(8) {
		if !m.Loop {
			continue
		}
		round := int64(m.LoopEnd - m.LoopStart)
		for ahead := range int64(20) {
			at := int64(m.LoopStart) + ahead
			want := wave.Unroll(m, at)
			if want < m.LoopStart || want >= m.LoopEnd {
				t.Errorf("Unroll(%+v, %d) = %d", m, at, want)
			}
			for _, rounds := range []int64{1, 2, 3, 1000, 1 << 40, int64(c.next()>>1) / round / 2, (math.MaxInt64 - at) / round} {
				wantUnroll(t, m, at+rounds*round, want)
			}
		}
	}
}

// Promise P1: of any samples, Metas and numbers there is an end, and no panic; no place lies farther than there are numbers for it.
func TestEnds(t *testing.T) {
	c := chance(8)
	ints := append(far(), -3, -2, -1, 0, 1, 2, 3, 5, 40, long, long+1)
	some := func() int { return ints[c.below(len(ints))] }
	counts := []int{math.MinInt, -1, 0, 1, 50, 1 << 31, math.MaxInt}
	for range 20000 {
		m := api.Meta{Length: some(), Rate: some(), Channels: some(), Loop: c.below(4) > 0, LoopStart: some(), LoopEnd: some(), Sums: some(), First: some()}
		if c.below(2) == 0 {
			m.Name = c.name(c.below(40))
		}
		wave.RightMeta(m)
		if at := wave.Unroll(m, int64(some())); at < -1 {
			t.Errorf("%+v: %d", m, at)
		}
		wave.Unrolled(m, c.samples(c.below(10)), int64(some()), counts[c.below(len(counts))])
		s := api.Sample{Name: m.Name, Rate: m.Rate, Loop: m.Loop, LoopStart: m.LoopStart, LoopEnd: m.LoopEnd}
		for range c.below(4) {
			s.Data = append(s.Data, c.samples(c.below(4)))
		}
		wave.IsName(s.Name)
		wave.Length(s)
		wave.Check(s)
		wave.Meta(s)
		wave.CheckAll(s, c.sample(), s)
		wave.Sort(s, c.sample(), s)
	}
}

// Rules R3 and R4: what is asked of samples changes nothing of them, and is answered alike again.
func TestAgain(t *testing.T) {
	c := chance(9)
	var l []api.Sample
	for range 30 {
		s := c.sample()
		if c.below(3) == 0 {
			s.Rate, s.LoopEnd = c.below(2), c.below(3)
		}
		l = append(l, s)
	}
	was, first := copies(l), wave.Sort(l...)
	for range 3 {
		for i, s := range l {
			if wave.Check(s) != wave.Check(was[i]) || wave.Meta(s) != wave.Meta(was[i]) || wave.CheckAll(l[i:]...) != wave.CheckAll(was[i:]...) {
				t.Error(i)
			}
		}
		if !alike(l, was) || !alike(wave.Sort(l...), first) {
			t.Error("what was handed in has changed, or is answered otherwise")
		}
	}
}
