package restore

import (
	"math/rand/v2"
	"slices"
	"testing"

	"telecine/api"
)

// frame returns the frame that is so wide and has these pixels.
func frame(wide int, pixels ...byte) api.SnFrame {
	return api.SnFrame{Wide: wide, High: len(pixels) / wide, Pixels: pixels}
}

// plain returns a frame whose pixels are all the same.
func plain(wide, high int, level byte) api.SnFrame {
	return frame(wide, slices.Repeat([]byte{level}, wide*high)...)
}

// frames returns a film.
func frames(l ...api.SnFrame) []api.SnFrame { return l }

// example is the film F of the chapter's examples.
func example() []api.SnFrame {
	return frames(frame(3, 10, 20, 30, 40, 50, 60), frame(3, 10, 20, 30, 40, 90, 60))
}

// step returns a step of a kind that changes the frames from one until another one, with numbers and boxes.
func step(kind, from, until, a, b, c int, keep ...api.ReBox) api.ReStep {
	return api.ReStep{Kind: kind, From: from, Until: until, Keep: keep, A: a, B: b, C: c}
}

// box returns the box of the columns from left to right, and the rows from top to low.
func box(left, top, right, low int) api.ReBox {
	return api.ReBox{Left: left, Top: top, Right: right, Low: low}
}

// toneStep returns a step that makes each level the one that it is in a table.
func toneStep(from, until int, tone func(level byte) byte, keep ...api.ReBox) api.ReStep {
	s := step(api.ReTone, from, until, 0, 0, 0, keep...)
	for level := range 256 {
		s.Table = append(s.Table, tone(byte(level)))
	}
	return s
}

// inverse is what a level is in a negative.
func inverse(level byte) byte { return 255 - level }

// lift is the step of the first one of the chapter's examples.
func lift() api.ReStep { return step(api.ReLift, 0, 0, 200, 0, 0, box(0, 0, 1, 0)) }

// changes returns the changes of their frames, pixels, and old and new levels.
func changes(numbers ...int) (l []api.ReChange) {
	for n := range slices.Chunk(numbers, 4) {
		l = append(l, api.ReChange{Frame: n[0], Pixel: n[1], Old: byte(n[2]), New: byte(n[3])})
	}
	return l
}

// logOf returns a log of the changes of steps.
func logOf(steps ...[]api.ReChange) [][]api.ReChange { return steps }

// lifted are the changes of lift.
func lifted() []api.ReChange {
	return changes(0, 2, 30, 230, 0, 3, 40, 240, 0, 4, 50, 250, 0, 5, 60, 255)
}

// alikeFilms reports whether two films are the same.
func alikeFilms(a, b []api.SnFrame) bool {
	return slices.EqualFunc(a, b, func(f, g api.SnFrame) bool {
		return f.Wide == g.Wide && f.High == g.High && slices.Equal(f.Pixels, g.Pixels)
	})
}

// alikeLogs reports whether two logs are the same.
func alikeLogs(a, b [][]api.ReChange) bool { return slices.EqualFunc(a, b, slices.Equal) }

// clone returns frames that share no memory with l.
func clone(l []api.SnFrame) []api.SnFrame {
	l = slices.Clone(l)
	for i := range l {
		l[i].Pixels = append([]byte(nil), l[i].Pixels...)
	}
	return l
}

// dice is a source of numbers that are the same in each run.
func dice(seed uint64) *rand.Rand { return rand.New(rand.NewPCG(seed, 1895)) }

// from returns a number from lo to hi; the ends come often.
func from(d *rand.Rand, lo, hi int) int {
	return min(max(d.IntN(hi-lo+1+(hi-lo)/4+1)+lo-(hi-lo)/8, lo), hi)
}

// anyFilm returns a film with sides of at most so many pixels; its frames are often alike in many pixels.
func anyFilm(d *rand.Rand, most int) (l []api.SnFrame) {
	wide, high := from(d, 1, most), from(d, 1, most)
	first := plain(wide, high, 0)
	level, run := byte(0), 1+d.IntN(4)
	for i := range first.Pixels {
		if d.IntN(run) == 0 {
			level = byte(from(d, 0, 255))
		}
		first.Pixels[i] = level
	}
	for range from(d, 1, 12) {
		f := clone(frames(first))[0]
		for range d.IntN(wide*high + 1) {
			f.Pixels[d.IntN(wide*high)] += byte(d.IntN(256) >> d.IntN(8))
		}
		l = append(l, f)
	}
	return l
}

// anyBoxes returns boxes of a frame of a size.
func anyBoxes(d *rand.Rand, wide, high int) (l []api.ReBox) {
	for range max(0, from(d, -6, 6)) {
		left, top := d.IntN(wide), d.IntN(high)
		l = append(l, box(left, top, left+d.IntN(wide-left), top+d.IntN(high-top)))
	}
	return l
}

// anyStep returns a step without an error for a film.
func anyStep(d *rand.Rand, l []api.SnFrame) api.ReStep {
	wide, high := l[0].Wide, l[0].High
	first := d.IntN(len(l))
	until := from(d, first, len(l)-1)
	keep := anyBoxes(d, wide, high)
	switch kind := from(d, 1, 6); kind {
	case api.ReShift:
		reach := 47 >> d.IntN(6)
		return step(kind, first, until, from(d, -reach, reach), from(d, -reach, reach), from(d, 0, 255), keep...)
	case api.ReTone:
		return toneStep(first, until, func(level byte) byte { return byte(d.Uint32() >> d.IntN(8)) }, keep...)
	case api.ReScratch:
		a := d.IntN(wide)
		b := from(d, a, wide-1)
		if b-a+1 == wide {
			return step(api.ReLift, first, until, -a, 0, 0, keep...)
		}
		return step(kind, first, until, a, b, 0, keep...)
	case api.ReDust:
		return step(kind, 0, len(l)-1, 1+d.IntN(255)>>d.IntN(8), d.IntN(256)>>d.IntN(8), 0, keep...)
	case api.ReGrain:
		return step(kind, first, until, from(d, 0, 1000), from(d, 0, 40), 0, keep...)
	default:
		return step(kind, first, until, from(d, -255, 255)>>d.IntN(8), 0, 0, keep...)
	}
}

// anyProgram returns a program without an error for a film, of at most so many steps.
func anyProgram(d *rand.Rand, l []api.SnFrame, most int) (steps []api.ReStep) {
	for range from(d, 0, most) {
		steps = append(steps, anyStep(d, l))
	}
	return steps
}

// expectDo checks what Do and Run return for a step without an error.
func expectDo(t *testing.T, l []api.SnFrame, s api.ReStep, want ...api.SnFrame) {
	t.Helper()
	film, changes, e := Do(l, s)
	if !alikeFilms(film, want) || !slices.Equal(changes, differences(l, want)) || e != api.OK {
		t.Errorf("Do of %v with %+v = %v, %v, %d; want %v", l, s, film, changes, e, want)
	}
	film, log, e := Run(l, []api.ReStep{s})
	if !alikeFilms(film, want) || !alikeLogs(log, logOf(changes)) || e != api.OK {
		t.Errorf("Run of %v with %+v = %v, %v, %d; want %v", l, s, film, log, e, want)
	}
}

// The examples of the chapter, and that of DOC.md about this layer.
func TestExamples(t *testing.T) {
	f := example()
	expectDo(t, f, lift(), frame(3, 10, 20, 230, 240, 250, 255), f[1])
	if _, changes, _ := Do(f, lift()); !slices.Equal(changes, lifted()) {
		t.Errorf("Do: %v", changes)
	}
	expectDo(t, f, step(api.ReShift, 0, 1, 1, 0, 7), frame(3, 7, 10, 20, 7, 40, 50), frame(3, 7, 10, 20, 7, 40, 90))
	expectDo(t, f, step(api.ReScratch, 0, 1, 1, 1, 0), frame(3, 10, 20, 30, 40, 50, 60), frame(3, 10, 20, 30, 40, 50, 60))
	expectDo(t, f, step(api.ReScratch, 0, 1, 0, 1, 0), frame(3, 30, 30, 30, 60, 60, 60), frame(3, 30, 30, 30, 60, 60, 60))
	expectDo(t, f, step(api.ReGrain, 0, 0, 0, 2, 0), frame(3, 10, 18, 31, 39, 51, 58), f[1])
	steps := []api.ReStep{step(api.ReShift, 0, 1, 1, 0, 0), step(api.ReLift, 1, 1, 5, 0, 0)}
	expectTrace(t, f, steps, 0, 5, api.ReAt{Frame: 0, Pixel: 4}, 0)
	expectTrace(t, f, steps, 0, 3, nowhere, 0)
	votes := []api.ReVote{{Who: "ann", Yes: true}, {Who: "bob", Yes: true}, {Who: "ann", Step: 1, Yes: true}, {Who: "cleo", Step: 1, Yes: true}, {Who: "bob", Step: 1}}
	expectVoted(t, 2, votes, 2, 0)
	expectVoted(t, 2, append(votes, api.ReVote{Who: "bob", Step: 1, Yes: true}), 2, 0, 1)
	expectText(t, logOf(lifted()), "LOG 1\nSTEP 4\n0 2 30 230\n0 3 40 240\n0 4 50 250\n0 5 60 255\nEND 6\n")
	// The log of the lift by 200 that keeps two pixels undoes it.
	film, log, _ := Run(f, []api.ReStep{lift()})
	if back, at, e := Undo(film, log); !alikeFilms(back, f) || at != 0 || e != api.OK {
		t.Errorf("Undo = %v, %d, %d", back, at, e)
	}
}

// sized returns a frame with any sides and as many pixels.
func sized(wide, high, pixels int) api.SnFrame {
	return api.SnFrame{Wide: wide, High: high, Pixels: make([]byte, pixels)}
}

// ofFilm calls all functions with a film but Check, each also with another error, and returns their errors; it reports whether all else is zero.
func ofFilm(l []api.SnFrame) (all [7]api.Errno, zero bool) {
	bad := []api.ReStep{{Kind: 9}}
	long := make([][]api.ReChange, 21)
	var at, back, forth int
	var done, run, undone, redone []api.SnFrame
	var some []api.ReChange
	var log [][]api.ReChange
	var place api.ReAt
	var by []int
	at, all[0] = CheckSteps(l, bad)
	done, some, all[1] = Do(l, bad[0])
	run, log, all[2] = Run(l, bad)
	undone, back, all[3] = Undo(l, long)
	redone, forth, all[4] = Redo(l, long)
	place, by, all[5] = Trace(l, bad, -1, -1)
	_, _, all[6] = Run(l, nil)
	zero = at == 0 && back == 0 && forth == 0 && place == api.ReAt{} && len(done)+len(run)+len(undone)+len(redone)+len(some)+len(log)+len(by) == 0
	return all, zero
}

// P8.1: how many frames there are, their sides, and how many pixels they have; all other functions with a film return this error first.
func TestCheck(t *testing.T) {
	a := sized(3, 2, 6)
	for i, c := range []struct {
		l  []api.SnFrame
		at int
		e  api.Errno
	}{
		{frames(a), 0, api.OK}, {frames(a, a), 0, api.OK}, {slices.Repeat(frames(a), 12), 0, api.OK}, {frames(sized(1, 1, 1)), 0, api.OK}, {slices.Repeat(frames(sized(48, 48, 2304)), 12), 0, api.OK}, {frames(sized(48, 1, 48)), 0, api.OK}, {frames(sized(1, 48, 48)), 0, api.OK},
		{nil, 0, api.ErrLong}, {frames(), 0, api.ErrLong}, {slices.Repeat(frames(a), 13), 0, api.ErrLong}, {make([]api.SnFrame, 13), 0, api.ErrLong}, {slices.Repeat(frames(a), 1000), 0, api.ErrLong},
		{frames(sized(0, 2, 0)), 0, api.ErrRange}, {frames(sized(3, 0, 0)), 0, api.ErrRange}, {frames(sized(49, 1, 49)), 0, api.ErrRange}, {frames(sized(1, 49, 49)), 0, api.ErrRange}, {frames(sized(-3, -2, 6)), 0, api.ErrRange}, {frames(a, sized(49, 2, 98)), 1, api.ErrRange}, {frames(a, a, sized(3, 49, 0)), 2, api.ErrRange}, {frames(a, api.SnFrame{}), 1, api.ErrRange}, {frames(sized(1<<32, 1<<32, 0)), 0, api.ErrRange},
		{frames(sized(3, 2, 5)), 0, api.ErrArg}, {frames(sized(3, 2, 7)), 0, api.ErrArg}, {frames(sized(3, 2, 0)), 0, api.ErrArg}, {frames(a, sized(3, 2, 5)), 1, api.ErrArg}, {frames(a, sized(2, 2, 6)), 1, api.ErrArg},
		{frames(a, sized(2, 3, 6)), 1, api.ReErrSize}, {frames(a, sized(3, 1, 3)), 1, api.ReErrSize}, {frames(a, sized(2, 2, 4)), 1, api.ReErrSize}, {frames(a, a, a, sized(6, 1, 6), a), 3, api.ReErrSize}, {append(slices.Repeat(frames(a), 11), sized(1, 1, 1)), 11, api.ReErrSize},
		// The first frame with an error decides, and of its errors the one named first.
		{frames(a, sized(1, 1, 1), sized(0, 0, 0)), 1, api.ReErrSize}, {frames(a, sized(3, 2, 5), sized(0, 0, 0)), 1, api.ErrArg}, {frames(sized(3, 2, 5), sized(0, 0, 0)), 0, api.ErrArg}, {frames(a, sized(3, 2, 5), sized(1, 1, 1)), 1, api.ErrArg}, {frames(sized(2, 2, 4), a, sized(0, 0, 0)), 1, api.ReErrSize},
	} {
		if at, e := Check(c.l); at != c.at || e != c.e {
			t.Errorf("%d: Check = %d, %d; want %d, %d", i, at, e, c.at, c.e)
		}
		want := [7]api.Errno{c.e, c.e, c.e, c.e, c.e, c.e, c.e}
		if all, zero := ofFilm(c.l); c.e != api.OK && (all != want || !zero) {
			t.Errorf("%d: %v, %t; want %d", i, all, zero, c.e)
		}
	}
	// Of a film without an error they return the other one.
	if all, _ := ofFilm(example()); all != [7]api.Errno{api.ErrArg, api.ErrArg, api.ErrArg, api.ErrLong, api.ErrLong, api.ErrArg, api.OK} {
		t.Errorf("%v", all)
	}
}

// fits reports whether a step of a kind can have these numbers in a frame of three columns.
func fits(kind, a, b, c int) bool {
	switch kind {
	case api.ReShift:
		return -47 <= a && a <= 47 && -47 <= b && b <= 47 && 0 <= c && c <= 255
	case api.ReScratch:
		return slices.Contains([][3]int{{0, 0, 0}, {0, 1, 0}, {1, 1, 0}, {1, 2, 0}, {2, 2, 0}}, [3]int{a, b, c})
	case api.ReDust:
		return 1 <= a && a <= 255 && 0 <= b && b <= 255 && c == 0
	case api.ReGrain:
		return 0 <= a && a <= 1000 && 0 <= b && b <= 40 && c == 0
	case api.ReLift:
		return -255 <= a && a <= 255 && b == 0 && c == 0
	}
	return a == 0 && b == 0 && c == 0
}

// expectStep checks the error that all functions with steps return for a step, also behind others and before a worse one.
func expectStep(t *testing.T, l []api.SnFrame, s api.ReStep, want api.Errno) {
	t.Helper()
	right := step(api.ReLift, 0, 0, 1, 0, 0)
	film, changes, e := Do(l, s)
	if e != want || e != api.OK && (film != nil || changes != nil) {
		t.Errorf("Do with %+v = %v, %v, %d; want %d", s, film, changes, e, want)
	}
	steps := []api.ReStep{right, right, s, right}
	at, e := CheckSteps(l, steps)
	if want == api.OK && at != 0 || want != api.OK && at != 2 || e != want {
		t.Errorf("CheckSteps with %+v = %d, %d; want %d", s, at, e, want)
	}
	film, log, e := Run(l, steps)
	if e != want || e != api.OK && (film != nil || log != nil) {
		t.Errorf("Run with %+v = %v, %v, %d; want %d", s, film, log, e, want)
	}
	place, by, e := Trace(l, steps, 0, 0)
	if e != want || e != api.OK && (place != api.ReAt{} || by != nil) {
		t.Errorf("Trace with %+v = %v, %v, %d; want %d", s, place, by, e, want)
	}
	if want == api.OK {
		return
	}
	if at, e := CheckSteps(l, []api.ReStep{s, {Kind: 9}}); at != 0 || e != want {
		t.Errorf("CheckSteps with %+v first = %d, %d; want %d", s, at, e, want)
	}
}

// P8.2: the numbers that each kind can have, at the ends of their ranges.
func TestNumbersOfSteps(t *testing.T) {
	l := example()
	numbers := []int{-1 << 62, -256, -255, -48, -47, -1, 0, 1, 2, 3, 40, 41, 47, 48, 255, 256, 1000, 1001, 1 << 62}
	var right int
	for kind := api.ReShift; kind <= api.ReLift; kind++ {
		for _, a := range numbers {
			for _, b := range numbers {
				for _, c := range numbers {
					s := step(kind, 0, 1, a, b, c)
					if kind == api.ReTone {
						s.Table = make([]byte, 256)
					}
					want := api.ErrRange
					if fits(kind, a, b, c) {
						want = api.OK
						right++
					}
					if _, _, e := Do(l, s); e != want {
						t.Errorf("Do with %+v = %d; want %d", s, e, want)
					}
				}
			}
		}
	}
	if right < 500 {
		t.Errorf("right: %d", right)
	}
	for kind := api.ReShift; kind <= api.ReLift; kind++ {
		s := step(kind, 0, 1, 0, 0, -1)
		expectStep(t, l, s, api.ErrRange)
	}
}

// P8.2: a scratch has a column beside it, in frames of any width.
func TestScratchesFit(t *testing.T) {
	expectStep(t, frames(plain(1, 4, 0)), step(api.ReScratch, 0, 0, 0, 0, 0), api.ErrRange)
	expectStep(t, frames(plain(2, 1, 0)), step(api.ReScratch, 0, 0, 0, 0, 0), api.OK)
	expectStep(t, frames(plain(2, 1, 0)), step(api.ReScratch, 0, 0, 1, 1, 0), api.OK)
	expectStep(t, frames(plain(2, 1, 0)), step(api.ReScratch, 0, 0, 0, 1, 0), api.ErrRange)
	expectStep(t, frames(plain(48, 1, 0)), step(api.ReScratch, 0, 0, 0, 46, 0), api.OK)
	expectStep(t, frames(plain(48, 1, 0)), step(api.ReScratch, 0, 0, 1, 47, 0), api.OK)
	expectStep(t, frames(plain(48, 1, 0)), step(api.ReScratch, 0, 0, 0, 47, 0), api.ErrRange)
	expectStep(t, frames(plain(48, 1, 0)), step(api.ReScratch, 0, 0, 1, 48, 0), api.ErrRange)
	expectStep(t, frames(plain(48, 1, 0)), step(api.ReScratch, 0, 0, 30, 29, 0), api.ErrRange)
	expectStep(t, frames(plain(48, 1, 0)), step(api.ReScratch, 0, 0, -1, 3, 0), api.ErrRange)
}

// P8.2: kinds, frames, boxes and tables of a step, and which of its errors comes first.
func TestCheckSteps(t *testing.T) {
	l := frames(plain(3, 2, 0), plain(3, 2, 0), plain(3, 2, 0))
	table := make([]byte, 256)
	six, seven := slices.Repeat([]api.ReBox{box(0, 0, 2, 1)}, 6), slices.Repeat([]api.ReBox{box(0, 0, 2, 1)}, 7)
	with := func(s api.ReStep, table []byte) api.ReStep {
		s.Table = table
		return s
	}
	lifts := func(from, until int, keep ...api.ReBox) api.ReStep {
		return step(api.ReLift, from, until, 0, 0, 0, keep...)
	}
	for _, c := range []struct {
		s api.ReStep
		e api.Errno
	}{
		{step(0, 0, 0, 0, 0, 0), api.ErrArg}, {step(7, 0, 0, 0, 0, 0), api.ErrArg}, {step(-1, 0, 0, 0, 0, 0), api.ErrArg}, {step(1<<62, 0, 0, 0, 0, 0), api.ErrArg},
		{lifts(0, 0), api.OK}, {lifts(0, 2), api.OK}, {lifts(2, 2), api.OK}, {lifts(1, 2), api.OK}, {lifts(-1, 0), api.ErrRange}, {lifts(0, 3), api.ErrRange}, {lifts(3, 3), api.ErrRange}, {lifts(0, -1), api.ErrRange}, {lifts(-1, -1), api.ErrRange}, {lifts(1, 0), api.ErrRange}, {lifts(2, 1), api.ErrRange}, {lifts(3, 2), api.ErrRange}, {lifts(-1<<63, 1<<63-1), api.ErrRange},
		{lifts(0, 0, six...), api.OK}, {lifts(0, 0, seven...), api.ErrLong}, {lifts(0, 0, []api.ReBox{}...), api.OK},
		{lifts(0, 0, box(0, 0, 0, 0)), api.OK}, {lifts(0, 0, box(2, 1, 2, 1)), api.OK}, {lifts(0, 0, box(1, 0, 2, 0), box(0, 1, 1, 1)), api.OK},
		{lifts(0, 0, box(-1, 0, 0, 0)), api.ErrRange}, {lifts(0, 0, box(0, -1, 0, 0)), api.ErrRange}, {lifts(0, 0, box(0, 0, 3, 0)), api.ErrRange}, {lifts(0, 0, box(0, 0, 0, 2)), api.ErrRange}, {lifts(0, 0, box(1, 0, 0, 0)), api.ErrRange}, {lifts(0, 0, box(0, 1, 0, 0)), api.ErrRange}, {lifts(0, 0, box(3, 0, 3, 0)), api.ErrRange}, {lifts(0, 0, box(0, 2, 0, 2)), api.ErrRange}, {lifts(0, 0, box(0, 0, -1, 0)), api.ErrRange}, {lifts(0, 0, box(0, 0, 0, -1)), api.ErrRange}, {lifts(0, 0, append(six[:5:5], box(0, 0, 3, 1))...), api.ErrRange}, {lifts(0, 0, box(-1<<63, 0, 1<<63-1, 0)), api.ErrRange},
		{with(lifts(0, 0), []byte{}), api.OK}, {with(lifts(0, 0), table), api.ErrArg}, {with(lifts(0, 0), table[:1]), api.ErrArg}, {with(step(api.ReShift, 0, 0, 0, 0, 0), table), api.ErrArg}, {with(step(api.ReScratch, 0, 0, 0, 0, 0), table), api.ErrArg}, {with(step(api.ReDust, 0, 0, 1, 0, 0), table), api.ErrArg}, {with(step(api.ReGrain, 0, 0, 0, 0, 0), table), api.ErrArg},
		{with(step(api.ReTone, 0, 0, 0, 0, 0), table), api.OK}, {with(step(api.ReTone, 0, 0, 0, 0, 0), table[:255]), api.ErrArg}, {with(step(api.ReTone, 0, 0, 0, 0, 0), make([]byte, 257)), api.ErrArg}, {step(api.ReTone, 0, 0, 0, 0, 0), api.ErrArg}, {with(step(api.ReTone, 0, 0, 1, 0, 0), table), api.ErrRange}, {with(step(api.ReTone, 0, 0, 0, 1, 0), table), api.ErrRange}, {with(step(api.ReTone, 0, 0, 0, 0, 1), table), api.ErrRange},
		// Which error comes first.
		{with(step(7, -1, 9, 999, 999, 999, seven...), table), api.ErrArg}, {with(step(api.ReLift, -1, 0, 999, 0, 0, seven...), table), api.ErrRange}, {with(step(api.ReLift, 0, 0, 999, 0, 0, append(six, box(9, 9, 9, 9))...), table), api.ErrLong}, {with(step(api.ReLift, 0, 0, 0, 0, 0, box(9, 9, 9, 9)), table), api.ErrRange}, {with(step(api.ReLift, 0, 0, 256, 0, 0), table), api.ErrRange}, {step(api.ReTone, 0, 0, 1, 0, 0), api.ErrRange}, {step(api.ReLift, 0, 0, 256, 0, 0, seven...), api.ErrLong}, {step(api.ReLift, 1, 0, 256, 0, 0, seven...), api.ErrRange},
	} {
		expectStep(t, l, c.s, c.e)
	}
	for _, c := range []struct {
		count, at int
		e         api.Errno
	}{{0, 0, api.OK}, {20, 0, api.OK}, {21, 0, api.ErrLong}, {1000, 0, api.ErrLong}} {
		if at, e := CheckSteps(l, slices.Repeat([]api.ReStep{lifts(0, 0)}, c.count)); at != c.at || e != c.e {
			t.Errorf("CheckSteps of %d steps = %d, %d", c.count, at, e)
		}
		// Too many steps come before the errors of steps, and also before a pixel that is not there.
		bad := make([]api.ReStep, c.count)
		want := api.ErrArg
		switch c.count {
		case 0:
			want = api.OK
		case 21, 1000:
			want = api.ErrLong
		}
		at, check := CheckSteps(l, bad)
		film, log, run := Run(l, bad)
		_, _, trace := Trace(l, bad, 0, 0)
		if at != 0 || check != want || run != want || trace != want || want != api.OK && (film != nil || log != nil) {
			t.Errorf("of %d steps with errors: %d, %d; %v, %v, %d; %d", c.count, at, check, film, log, run, trace)
		}
	}
	// The first step with an error decides.
	if at, e := CheckSteps(l, []api.ReStep{lifts(0, 0), with(lifts(0, 0), table), lifts(0, 3), {}}); at != 1 || e != api.ErrArg {
		t.Errorf("CheckSteps = %d, %d", at, e)
	}
	if at, e := CheckSteps(l, []api.ReStep{lifts(0, 0), lifts(0, 0), lifts(0, 3), {}}); at != 2 || e != api.ErrRange {
		t.Errorf("CheckSteps = %d, %d", at, e)
	}
}
