package sound

import (
	"math/rand/v2"
	"slices"
	"testing"

	"telecine/api"
)

// P9.10: if any sync keeps to all marks, none is struck, its samples are possible, and sound that is played as Fit returns is off by at most its Off.
func TestTrueSync(t *testing.T) {
	d := dice(13)
	for i := range 1500 {
		x, sync := anyTask(d, 200)
		if i%500 == 0 {
			x.Frames = api.MaxSdFrames
			sync = anySync(d, x.Frames, x.Rate)
			x.Marks = trueMarks(d, sync, api.MaxSdMarks)
		}
		expectStruck(t, x)
		fit, _, e := Fit(x)
		for f, sample := range sync {
			off := apart(sample, fit.Begin+floor(fit.Speed*f, 1000))
			if off > fit.Off || e != api.OK {
				t.Fatalf("Fit of %v = %v, %d; off by %d at %d", x, fit, e, off, f)
			}
		}
		for f := 0; f < x.Frames; f += 1 + x.Frames/200 {
			if s, e := Where(x, f); !within(sync[f], s.Lo, s.Hi) || e != api.OK {
				t.Fatalf("Where of %v of %d = %v, %d; it is %d", x, f, s, e, sync[f])
			}
		}
		if t.Failed() {
			t.FailNow()
		}
	}
}

// possible returns the samples of all frames, as Where does.
func possible(t *testing.T, x api.SdTask) (l []api.Span) {
	t.Helper()
	for f := range x.Frames {
		s, e := Where(x, f)
		if e != api.OK || s.Lo > s.Hi {
			t.Fatalf("Where of %v of %d = %v, %d", x, f, s, e)
		}
		l = append(l, s)
	}
	return l
}

// P9.3: each possible sample is followed by one, and follows one: no number between the ends is left out.
func TestJustThese(t *testing.T) {
	d := dice(14)
	for range 500 {
		x, _ := anyTask(d, 100)
		x.Marks = falseMarks(d, x.Marks)
		for f, s := range possible(t, x) {
			if f+1 == x.Frames {
				break
			}
			next, _ := Where(x, f+1)
			if s.Lo+x.Rate.Hi < next.Lo || s.Hi+x.Rate.Lo > next.Hi || next.Lo-x.Rate.Lo < s.Lo || next.Hi-x.Rate.Hi > s.Hi {
				t.Fatalf("Where of %v: %v at %d, and then %v", x, s, f, next)
			}
		}
	}
}

// P9.11: no sync keeps to a mark that is struck and to the one by which it is, and this one is not struck.
func TestStruckContradict(t *testing.T) {
	d := dice(15)
	var count int
	for range 1000 {
		x, _ := anyTask(d, 200)
		x.Marks = falseMarks(d, x.Marks)
		struck, _ := Struck(x)
		for _, s := range struck {
			_, ok := slowNarrow(x, x.Marks[s.Mark], x.Marks[s.By])
			if ok || s.By >= s.Mark || slices.ContainsFunc(struck, func(o api.SdStrike) bool { return o.Mark == s.By }) {
				t.Fatalf("Struck of %v = %v", x, struck)
			}
			expectStruck(t, with(x, []api.SdMark{x.Marks[s.By], x.Marks[s.Mark]}), strikes(1, 0)...)
			count++
		}
		if !slices.IsSortedFunc(struck, func(a, b api.SdStrike) int { return a.Mark - b.Mark }) || t.Failed() {
			t.Fatalf("Struck of %v = %v", x, struck)
		}
	}
	if count < 1000 {
		t.Errorf("count: %d", count)
	}
}

// P9.11: with a further mark, at the end, no sample becomes possible that was not; if it is struck, all stay.
func TestFurtherMark(t *testing.T) {
	d := dice(16)
	var narrower, same int
	for range 600 {
		x, _ := anyTask(d, 60)
		x.Marks = falseMarks(d, x.Marks)
		last := len(x.Marks) - 1
		if last == 0 {
			continue
		}
		before, after := possible(t, with(x, x.Marks[:last])), possible(t, x)
		former, _ := Struck(with(x, x.Marks[:last]))
		struck, _ := Struck(x)
		if !slices.Equal(former, struck[:len(former)]) {
			t.Fatalf("Struck of %v = %v; without the last mark %v", x, struck, former)
		}
		for f, s := range after {
			if s.Lo < before[f].Lo || s.Hi > before[f].Hi || len(struck) > len(former) && s != before[f] {
				t.Fatalf("Where of %v of %d = %v; without the last mark %v", x, f, s, before[f])
			}
		}
		if slices.Equal(before, after) {
			same++
		} else {
			narrower++
		}
	}
	if narrower < 50 || same < 50 {
		t.Errorf("narrower, same: %d, %d", narrower, same)
	}
}

// P9.12: with any begin, and any of the speeds, sound is off by at least the Off of Fit, and that of the proof for this speed; with those of Fit it is off by just its Off.
func TestBestSpeed(t *testing.T) {
	d := dice(17)
	for range 1000 {
		x, _ := anyTask(d, 200)
		x.Marks = falseMarks(d, x.Marks)
		fit, proofs, e := Fit(x)
		if off, _, f := Off(x, fit.Speed, fit.Begin); off != fit.Off || e != api.OK || f != api.OK {
			t.Fatalf("Fit of %v = %v, %d; Off of it: %d, %d", x, fit, e, off, f)
		}
		// A sample earlier it is off by more: no lesser begin is as good.
		if off, _, e := Off(x, fit.Speed, fit.Begin-1); off != fit.Off+1 || e != api.OK {
			t.Fatalf("Fit of %v = %v; Off of a sample earlier: %d, %d", x, fit, off, e)
		}
		for i, speed := range x.Speeds {
			p := proofs[i]
			if p.Speed != speed || p.Off < fit.Off || p.Off == fit.Off && speed < fit.Speed {
				t.Fatalf("Fit of %v = %v, %v", x, fit, proofs)
			}
			for range 10 {
				expectProved(t, x, p, fit, fit.Begin+anyBegin(d))
			}
		}
	}
}

// anyBegin returns a number of samples by which a begin differs from another one.
func anyBegin(d *rand.Rand) int {
	most := []int{3, 300, 300000, 300000000}[d.IntN(4)]
	return from(d, -most, most)
}

// expectProved checks that sound that is played with the speed of a proof, and a begin, is off by at least as much as it says, at one of its frames.
func expectProved(t *testing.T, x api.SdTask, p api.SdProof, fit api.SdFit, begin int) {
	t.Helper()
	off, _, e := Off(x, p.Speed, begin)
	high, _ := Where(x, p.High)
	low, _ := Where(x, p.Low)
	there := max(high.Hi-begin-floor(p.Speed*p.High, 1000), begin+floor(p.Speed*p.Low, 1000)-low.Lo)
	if off < fit.Off || off < p.Off || off != there || e != api.OK {
		t.Fatalf("Off of %v with %d from %d = %d, %d; %v, %v, there %d", x, p.Speed, begin, off, e, fit, p, there)
	}
}

// P9.15: samples that are all the same have no hum, and stay the same when they are bridged or pulled.
func TestQuiet(t *testing.T) {
	d := dice(18)
	for range 1000 {
		many, n := from(d, 1, 200), from(d, -1000000, 1000000)
		l := slices.Repeat([]int{n}, many)
		period := from(d, 1, many)
		expectHum(t, l, period, make([]int, period)...)
		splices := []int{d.IntN(many), d.IntN(many)}
		after, kept, e := Bloop(l, splices, d.IntN(51))
		if e == api.OK && (!slices.Equal(after, l) || !slices.Equal(kept, slices.Repeat([]int{n}, len(kept)))) {
			t.Fatalf("Bloop of %d times %d = %v, %v, %d", many, n, after, kept, e)
		}
		count := d.IntN(300)
		expectPull(t, l, d.IntN(4000001), d.IntN(3000), count, slices.Repeat([]int{n}, count), api.OK)
		expectPull(t, l, d.IntN(1000*many), d.IntN(3000), count, slices.Repeat([]int{n}, count), api.OK)
		if t.Failed() {
			t.FailNow()
		}
	}
}
