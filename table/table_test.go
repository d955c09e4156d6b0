package table_test

import (
	"math"
	"math/big"
	"testing"

	"calliope/api"
	"calliope/table"
)

// wrong are numbers below 0 or past the end of a table of so many.
func wrong(count int) []int {
	return []int{
		-1, -2, -count, -count - 1, -64, math.MinInt32, math.MinInt, math.MinInt + 1, math.MinInt + count,
		count, count + 1, 2 * count, 64, 128, 1 << 32, 1<<32 + 1, math.MaxInt32, math.MaxInt - 1, math.MaxInt,
	}
}

// Promise 4.1, Turn: each one, by its numbers.
func TestTurnKnown(t *testing.T) {
	for k, want := range [8]api.Turn{
		{P: 512, U: 1023}, {P: 1536, U: 3045}, {P: 2560, U: 4998}, {P: 3584, U: 6841},
		{P: 4608, U: 8540}, {P: 5632, U: 10074}, {P: 6656, U: 11426}, {P: 7680, U: 12593},
	} {
		if got := table.Turn(k); got != want {
			t.Errorf("Turn(%d) = %d; want %d", k, got, want)
		}
	}
}

// Promise 4.1, Turn: P and U are 2^14 times a tangent and a sine, to the nearest.
func TestTurnIsNearest(t *testing.T) {
	for k := range 8 {
		got := table.Turn(k)
		half := big.NewRat(int64(2*k+1), 32)
		wantNearest(t, "P", k, got.P, half)
		square := new(big.Rat).Mul(half, half)
		sine := new(big.Rat).Quo(new(big.Rat).Add(half, half), square.Add(square, big.NewRat(1, 1)))
		wantNearest(t, "U", k, got.U, sine)
	}
}

// wantNearest holds a number, that is told in parts of 2^14, to less than half a part from what it stands for.
func wantNearest(t *testing.T, name string, k int, got int64, part *big.Rat) {
	t.Helper()
	off := new(big.Rat).Mul(part, big.NewRat(1<<14, 1))
	off.Sub(off, big.NewRat(got, 1)).Abs(off)
	if off.Cmp(big.NewRat(1, 2)) >= 0 {
		t.Errorf("%s of turn %d is %d, off by %s", name, k, got, off.FloatString(3))
	}
}

// Promise 4.1, Turn: zero values of others.
func TestTurnWrong(t *testing.T) {
	for _, k := range wrong(8) {
		if got := table.Turn(k); got != (api.Turn{}) {
			t.Errorf("Turn(%d) = %d", k, got)
		}
	}
}

// Promise 4.1, Turns: all of them, and each time anew.
func TestTurns(t *testing.T) {
	mine := table.Turns()
	clear(mine[:])
	all := table.Turns()
	if len(all) != 8 {
		t.Error(len(all))
	}
	for k, got := range all {
		if got != table.Turn(k) || got.P == 0 {
			t.Errorf("Turns()[%d] = %d; want %d", k, got, table.Turn(k))
		}
	}
}

// Promise 4.1, Step: each one is twice the one ahead.
func TestStep(t *testing.T) {
	want := int64(1)
	for s := range 24 {
		if got := table.Step(s); got != want {
			t.Errorf("Step(%d) = %d; want %d", s, got, want)
		}
		want += want
	}
	if table.Step(0) != 1 || table.Step(5) != 32 || table.Step(23) != 8388608 {
		t.Error(table.Step(0), table.Step(5), table.Step(23))
	}
}

// Promise 4.1, Step: zero values of others.
func TestStepWrong(t *testing.T) {
	for _, s := range wrong(24) {
		if got := table.Step(s); got != 0 {
			t.Errorf("Step(%d) = %d", s, got)
		}
	}
}

// Promise 4.1, Steps: all of them, and each time anew.
func TestSteps(t *testing.T) {
	mine := table.Steps()
	clear(mine[:])
	all := table.Steps()
	if len(all) != 24 {
		t.Error(len(all))
	}
	for s, got := range all {
		if got != table.Step(s) || got == 0 {
			t.Errorf("Steps()[%d] = %d; want %d", s, got, table.Step(s))
		}
	}
}

// Promise 4.1, Taps: some, by their numbers.
func TestTapsKnown(t *testing.T) {
	for phase, want := range map[int][4]int64{
		0:  {0, 65536, 0, 0},
		1:  {-961, 65379, 1149, -31},
		2:  {-1800, 64920, 2536, -120},
		8:  {-4608, 56832, 14848, -1536},
		16: {-4096, 36864, 36864, -4096},
		24: {-1536, 14848, 56832, -4608},
		30: {-120, 2536, 64920, -1800},
		31: {-31, 1149, 65379, -961},
	} {
		if got := table.Taps(phase); got != want {
			t.Errorf("Taps(%d) = %d; want %d", phase, got, want)
		}
	}
}

// weigh is what a cubic weighs a sample by that lies so many parts away, of 32 a sample: the chapter's four sums are its pieces.
func weigh(away int64) int64 {
	if away < 0 {
		away = -away
	}
	if away <= 32 {
		return (3*away-160)*away*away + 65536
	}
	return ((-away+160)*away-8192)*away + 131072
}

// Promise 4.1, Taps: each one, by how far its sample is from the phase.
func TestTaps(t *testing.T) {
	for phase := range 32 {
		for i, got := range table.Taps(phase) {
			if want := weigh(int64(phase - 32*(i-1))); got != want {
				t.Errorf("Taps(%d)[%d] = %d; want %d", phase, i, got, want)
			}
		}
	}
}

// Promise 4.1, Taps: zero values of others, also where the sums would tell something.
func TestTapsWrong(t *testing.T) {
	for _, phase := range wrong(table.Phases) {
		if got := table.Taps(phase); got != [4]int64{} {
			t.Errorf("Taps(%d) = %d", phase, got)
		}
	}
}

// Promise 4.1, All: all of them, and each time anew.
func TestAll(t *testing.T) {
	mine := table.All()
	clear(mine[:])
	all := table.All()
	if table.Phases != 32 || len(all) != 32 {
		t.Error(table.Phases, len(all))
	}
	for phase, got := range all {
		if got != table.Taps(phase) || got == [4]int64{} {
			t.Errorf("All()[%d] = %d; want %d", phase, got, table.Taps(phase))
		}
	}
}

// tones are the chapter's words.
var tones = [12]string{"1/1", "16/15", "9/8", "6/5", "5/4", "4/3", "45/32", "3/2", "8/5", "5/3", "9/5", "15/8"}

func ratio(t *testing.T, tone int) *big.Rat {
	t.Helper()
	r, ok := new(big.Rat).SetString(tones[tone])
	if !ok {
		t.Fatal(tones[tone])
	}
	return r
}

// Promise 4.2, Ratio: numerators and denominators, as they are told.
func TestRatio(t *testing.T) {
	for tone := range tones {
		a, b := table.Ratio(tone)
		// All of them are in their lowest terms, so that equal ratios are equal numbers.
		want := ratio(t, tone)
		if a != want.Num().Int64() || b != want.Denom().Int64() {
			t.Errorf("Ratio(%d) = %d, %d; want %s", tone, a, b, tones[tone])
		}
	}
}

// Promise 4.2, Ratio: 0 and 1 of others.
func TestRatioWrong(t *testing.T) {
	for _, tone := range wrong(12) {
		if a, b := table.Ratio(tone); a != 0 || b != 1 {
			t.Errorf("Ratio(%d) = %d, %d", tone, a, b)
		}
	}
}

// Promise 4.2, Note: some, by their numbers.
func TestNoteKnown(t *testing.T) {
	for step, want := range map[int]int64{
		-60: 1 << 27,
		-59: 143165576, // 143165576.5
		-53: 3 << 26,
		-49: 15 << 24,
		-48: 1 << 28,
		-13: 15 << 27,
		-12: 1 << 31,
		-11: 2290649224, // 2290649224.5
		-6:  45 << 26,
		-1:  15 << 28,
		0:   1 << 32,
		1:   4581298449,
		2:   9 << 29,
		3:   5153960755,
		4:   5 << 30,
		5:   5726623061,
		6:   45 << 27,
		7:   3 << 31,
		8:   6871947673,
		9:   7158278826,
		10:  7730941132,
		11:  15 << 29,
		12:  1 << 33,
		20:  13743895346, // rounded down ahead of the shift: behind it, it would be one more
		24:  1 << 34,
		32:  27487790692,
		33:  28633115304,
		35:  15 << 31,
		36:  8 << 32,
	} {
		if got := table.Note(step); got != want {
			t.Errorf("Note(%d) = %d; want %d", step, got, want)
		}
	}
}

// noteByBig is the chapter's words: an octave is sought by going up or down in twelves.
func noteByBig(t *testing.T, step int) int64 {
	t.Helper()
	octave := 0
	for ; step < 0; step += 12 {
		octave--
	}
	for ; step > 11; step -= 12 {
		octave++
	}
	pitch := new(big.Rat).Mul(ratio(t, step), big.NewRat(1<<32, 1))
	whole := new(big.Int).Div(pitch.Num(), pitch.Denom())
	if octave < 0 {
		whole.Rsh(whole, uint(-octave))
	} else {
		whole.Lsh(whole, uint(octave))
	}
	return whole.Int64()
}

// Promise 4.2, Note: each step, by another way; all of them are pitches that may be, and rise.
func TestNote(t *testing.T) {
	last := int64(0)
	for step := -60; step <= 36; step++ {
		got := table.Note(step)
		if want := noteByBig(t, step); got != want {
			t.Errorf("Note(%d) = %d; want %d", step, got, want)
		}
		if got <= last || got > api.MaxPitch {
			t.Errorf("Note(%d) = %d, behind %d", step, got, last)
		}
		last = got
	}
	if last != api.MaxPitch {
		t.Errorf("the highest note is %d; want %d", last, int64(api.MaxPitch))
	}
}

// Promise 4.2, Note: 0 of steps below and above, near and far.
func TestNoteWrong(t *testing.T) {
	for far := 1; far < 300; far++ {
		wantNoNote(t, -60-far)
		wantNoNote(t, 36+far)
	}
	for _, step := range []int{
		math.MinInt, math.MinInt + 1, math.MinInt + 60, math.MinInt32, -1 << 32, -768, -760,
		1 << 32, 1<<32 - 12, math.MaxInt32, math.MaxInt - 60, math.MaxInt - 1, math.MaxInt,
	} {
		wantNoNote(t, step)
	}
}

func wantNoNote(t *testing.T, step int) {
	t.Helper()
	if got := table.Note(step); got != 0 {
		t.Errorf("Note(%d) = %d", step, got)
	}
}

// Promise 4.3: the sum of a phase's taps; those of phase 0.
func TestTapsSum(t *testing.T) {
	for phase, w := range table.All() {
		if sum := w[0] + w[1] + w[2] + w[3]; sum != 1<<16 {
			t.Errorf("the taps of phase %d have the sum %d", phase, sum)
		}
	}
	if got := table.Taps(0); got != [4]int64{0, 1 << 16, 0, 0} {
		t.Errorf("Taps(0) = %d", got)
	}
}

// Promise 4.3: a turn's U is below 2^14, and rises.
func TestTurnsRise(t *testing.T) {
	last := int64(0)
	for k, turn := range table.Turns() {
		if turn.U <= last || turn.U >= 1<<14 {
			t.Errorf("U of turn %d is %d, behind %d", k, turn.U, last)
		}
		last = turn.U
	}
}
