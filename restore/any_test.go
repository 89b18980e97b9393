package restore

import (
	"math"
	"math/rand/v2"
	"reflect"
	"slices"
	"strings"
	"testing"

	"telecine/api"
)

// corners are ints at the ends of what an int can be, of the ranges, and around 0.
func corners() []int {
	return []int{math.MinInt, math.MinInt + 1, math.MinInt32, -256, -255, -48, -47, -2, -1, 0, 1, 2, 3, 5, 6, 11, 12, 13, 19, 20, 21, 39, 40, 41, 47, 48, 49, 200, 201, 254, 255, 256, 999, 1000, 1001, 2303, 2304, math.MaxInt32, 1 << 32, 1 << 62, math.MaxInt - 1, math.MaxInt}
}

// corner returns one of the corners, those that are near to 0 more often.
func corner(d *rand.Rand) int {
	if d.IntN(2) == 0 {
		return d.IntN(4)
	}
	all := corners()
	return all[d.IntN(len(all))]
}

// P8.17 and DOC's P1: frames with any sides are accepted, also where their product is beyond what an int can be.
func TestAnyFrame(t *testing.T) {
	for _, wide := range corners() {
		for _, high := range corners() {
			for _, pixels := range []int{0, 1, 6, 48, 2304, 100000} {
				l := frames(sized(wide, high, pixels))
				want := api.OK
				if !within(wide, 1, 48) || !within(high, 1, 48) {
					want = api.ErrRange
				} else if wide*high != pixels {
					want = api.ErrArg
				}
				at, e := Check(l)
				if at != 0 || e != want {
					t.Errorf("Check of %d by %d with %d pixels = %d, %d; want %d", wide, high, pixels, at, e, want)
				}
				all := [7]api.Errno{want, want, want, want, want, want, want}
				if errors, zero := ofFilm(l); want != api.OK && (errors != all || !zero) {
					t.Errorf("of %d by %d with %d pixels: %v, %t; want %d", wide, high, pixels, errors, zero, want)
				}
			}
		}
	}
}

// slowStepError looks for the errors of a step one after the other; a film is 3 by 2, and has three frames.
func slowStepError(s api.ReStep) api.Errno {
	kind := s.Kind >= 1 && s.Kind <= 6
	frames := s.From >= 0 && s.From <= s.Until && s.Until < 3
	tones := 0
	if s.Kind == api.ReTone {
		tones = 256
	}
	boxes := true
	for _, b := range s.Keep {
		boxes = boxes && slices.Contains([][2]int{{0, 0}, {0, 1}, {0, 2}, {1, 1}, {1, 2}, {2, 2}}, [2]int{b.Left, b.Right})
		boxes = boxes && slices.Contains([][2]int{{0, 0}, {0, 1}, {1, 1}}, [2]int{b.Top, b.Low})
	}
	errors := []struct {
		right bool
		e     api.Errno
	}{{kind, api.ErrArg}, {frames, api.ErrRange}, {len(s.Keep) <= 6, api.ErrLong}, {boxes && fits(s.Kind, s.A, s.B, s.C), api.ErrRange}, {len(s.Table) == tones, api.ErrArg}}
	for _, x := range errors {
		if !x.right {
			return x.e
		}
	}
	return api.OK
}

// P8.2, P8.17: steps with any numbers are accepted.
func TestAnyStep(t *testing.T) {
	d := dice(14)
	l := frames(frame(3, 1, 2, 3, 4, 5, 6), frame(3, 1, 9, 3, 9, 5, 9), frame(3, 1, 2, 3, 4, 5, 7))
	results := map[api.Errno]int{}
	for range 200000 {
		s := step(from(d, 0, 7), corner(d)%4, corner(d), corner(d), corner(d), corner(d))
		if d.IntN(2) == 0 {
			s.From, s.Until = 0, d.IntN(3)
		}
		if d.IntN(2) == 0 {
			s.C = 0
		}
		if d.IntN(50) == 0 {
			s.Kind, s.From = corner(d), corner(d)
		}
		for range max(0, d.IntN(20)-12) {
			if d.IntN(8) == 0 {
				s.Keep = append(s.Keep, box(corner(d), corner(d), corner(d), corner(d)))
			} else {
				s.Keep = append(s.Keep, box(d.IntN(2), 0, 1+d.IntN(2), d.IntN(2)))
			}
		}
		if s.Kind == api.ReTone || d.IntN(8) == 0 {
			s.Table = make([]byte, 255+from(d, 0, 2))
		}
		want := slowStepError(s)
		at, e := CheckSteps(l, []api.ReStep{s})
		film, changes, f := Do(l, s)
		if at != 0 || e != want || f != want || want != api.OK && (film != nil || changes != nil) {
			t.Fatalf("CheckSteps with %+v = %d, %d; Do = %v, %v, %d; want %d", s, at, e, film, changes, f, want)
		}
		if want == api.OK && !alikeFilms(film, slowDo(l, s)) {
			t.Fatalf("Do with %+v = %v", s, film)
		}
		results[want]++
	}
	for _, e := range []api.Errno{api.OK, api.ErrArg, api.ErrRange, api.ErrLong} {
		if results[e] < 1000 {
			t.Errorf("results: %v", results)
		}
	}
}

// P8.17: any numbers besides films are accepted.
func TestAnyNumbers(t *testing.T) {
	l := example()
	for _, m := range corners() {
		for _, n := range corners() {
			in := within(m, 0, 1) && within(n, 0, 5)
			if _, _, e := Trace(l, []api.ReStep{lift()}, m, n); in != (e == api.OK) || !in && e != api.ErrNone {
				t.Errorf("Trace of the frame %d, pixel %d: %d", m, n, e)
			}
			log := logOf(changes(m, n, 1, 2))
			want := api.ReErrOld
			if !in {
				want = api.ErrNone
			}
			expectUndo(t, l, log, nil, 0, want)
			expectRedo(t, l, log, nil, 0, want)
			in = within(m, 0, 11) && within(n, 0, 2303)
			if _, e := Write(log); in != (e == api.OK) || !in && e != api.ErrArg {
				t.Errorf("Write of %v: %d", log, e)
			}
			in = within(m, 0, 20) && within(n, 1, 200)
			if _, e := Voted(m, nil, n); in != (e == api.OK) || !in && e != api.ErrRange {
				t.Errorf("Voted of %d steps, need %d: %d", m, n, e)
			}
		}
		if _, e := Voted(20, []api.ReVote{vote("ann", m, true)}, 1); within(m, 0, 19) != (e == api.OK) {
			t.Errorf("Voted by a vote on the step %d: %d", m, e)
		}
	}
}

// P8.17: longer lists and strings than there can be are accepted.
func TestAnyLengths(t *testing.T) {
	l := slices.Repeat(frames(plain(1, 1, 0)), 100000)
	if at, e := Check(l); at != 0 || e != api.ErrLong {
		t.Errorf("Check = %d, %d", at, e)
	}
	steps := slices.Repeat([]api.ReStep{lift()}, 100000)
	if at, e := CheckSteps(example(), steps); at != 0 || e != api.ErrLong {
		t.Errorf("CheckSteps = %d, %d", at, e)
	}
	if _, _, e := Trace(example(), steps, 0, 0); e != api.ErrLong {
		t.Errorf("Trace: %d", e)
	}
	keep := lift()
	keep.Keep, keep.Table = make([]api.ReBox, 100000), make([]byte, 100000)
	if _, _, e := Do(example(), keep); e != api.ErrLong {
		t.Errorf("Do: %d", e)
	}
	keep.Keep = nil
	if _, _, e := Do(example(), keep); e != api.ErrArg {
		t.Errorf("Do: %d", e)
	}
	log := make([][]api.ReChange, 100000)
	expectUndo(t, example(), log, nil, 0, api.ErrLong)
	expectRedo(t, example(), log, nil, 0, api.ErrLong)
	if text, e := Write(log); text != "" || e != api.ErrLong {
		t.Errorf("Write: %d bytes, %d", len(text), e)
	}
	// A step with more changes than a film has pixels cannot be in order.
	many := logOf(slices.Repeat(changes(0, 0, 10, 11), 100000))
	expectUndo(t, example(), many, nil, 0, api.ErrArg)
	if text, e := Write(many); text != "" || e != api.ErrArg {
		t.Errorf("Write: %d bytes, %d", len(text), e)
	}
	if accepted, e := Voted(20, slices.Repeat([]api.ReVote{vote(strings.Repeat("a", 1<<20), 0, true)}, 100000), 1); accepted != nil || e != api.ErrLong {
		t.Errorf("Voted = %v, %d", accepted, e)
	}
	if accepted, e := Voted(20, []api.ReVote{vote(strings.Repeat("a", 1<<20), 0, true)}, 1); accepted != nil || e != api.ErrForm {
		t.Errorf("Voted = %v, %d", accepted, e)
	}
	if log, e := Read(strings.Repeat("LOG 0\n", 1<<20)); log != nil || e != api.ErrLong {
		t.Errorf("Read = %v, %d", log, e)
	}
}

// P8.17: any bytes are accepted by Read.
func TestAnyBytes(t *testing.T) {
	d := dice(15)
	for range 50000 {
		b := make([]byte, d.IntN(40))
		for i := range b {
			b[i] = byte(d.Uint32() >> d.IntN(8))
		}
		s := []string{"", "LOG 1\n", "LOG 1\nSTEP 1\n"}[d.IntN(3)] + string(b)
		want, e := slowRead(s)
		if log, f := Read(s); f != e || !alikeLogs(log, want) {
			t.Fatalf("Read of %q = %v, %d; want %v, %d", s, log, f, want, e)
		}
	}
}

// everything is what is passed to the functions.
type everything struct {
	film  []api.SnFrame
	steps []api.ReStep
	log   [][]api.ReChange
	votes []api.ReVote
}

// copied returns the same, without shared memory.
func (x everything) copied() everything {
	steps := slices.Clone(x.steps)
	for i, s := range steps {
		steps[i].Keep, steps[i].Table = slices.Clone(s.Keep), slices.Clone(s.Table)
	}
	log := slices.Clone(x.log)
	for i, l := range log {
		log[i] = slices.Clone(l)
	}
	return everything{clone(x.film), steps, log, slices.Clone(x.votes)}
}

// call calls all functions.
func (x everything) call() {
	Check(x.film)
	CheckSteps(x.film, x.steps)
	for _, s := range x.steps {
		Do(x.film, s)
	}
	behind, _, _ := Run(x.film, x.steps)
	Undo(behind, x.log)
	Undo(x.film, x.log)
	Redo(x.film, x.log)
	Redo(behind, x.log)
	Trace(x.film, x.steps, len(x.film)-1, 0)
	Voted(20, x.votes, 1)
	Write(x.log)
}

// P8.17: no argument is modified, also not behind the ends of its lists.
func TestArgumentsStay(t *testing.T) {
	d := dice(16)
	for range 500 {
		l := anyFilm(d, 8)
		steps := append(anyProgram(d, l, 15), anyStep(d, l), anyStep(d, l))
		_, log, _ := Run(l, steps)
		whole := everything{l, steps, log, anyVotes(d, 20)}
		before := whole.copied()
		whole.call()
		count := d.IntN(len(steps))
		part := everything{slices.Clone(l[:max(1, len(l)-1)]), slices.Clone(steps[:count]), slices.Clone(log[:count]), whole.votes[:len(whole.votes)/2]}
		for i, changes := range part.log {
			part.log[i] = changes[:len(changes)/2]
		}
		for i, s := range part.steps {
			part.steps[i].Keep = s.Keep[:len(s.Keep)/2]
		}
		part.call()
		// A frame with an error, whose pixels go on behind its end.
		part.film[0].Pixels = part.film[0].Pixels[:d.IntN(len(l[0].Pixels))]
		part.call()
		if !reflect.DeepEqual(whole.copied(), before) {
			t.Fatalf("%v became %v", before, whole)
		}
	}
}

// spoil changes all memory of a film and a log, also behind the ends of their lists.
func spoil(l []api.SnFrame, log [][]api.ReChange) {
	for _, f := range l[:cap(l)] {
		all := f.Pixels[:cap(f.Pixels)]
		for i := range all {
			all[i] ^= 85
		}
	}
	clear(l[:cap(l)])
	for _, changes := range log[:cap(log)] {
		clear(changes[:cap(changes)])
	}
	clear(log[:cap(log)])
}

// P8.17: results are new memory: what is done to them changes neither an argument nor a later result.
func TestResultsAreNewMemory(t *testing.T) {
	steps := []api.ReStep{lift(), step(api.ReLift, 0, 1, 0, 0, 0), step(api.ReShift, 0, 0, 1, 0, 7)}
	behind := frames(frame(3, 7, 10, 20, 7, 240, 250), example()[1])
	log := logOf(lifted(), nil, changes(0, 0, 10, 7, 0, 1, 20, 10, 0, 2, 230, 20, 0, 3, 240, 7, 0, 4, 250, 240, 0, 5, 255, 250))
	x := everything{example(), steps, log, []api.ReVote{vote("ann", 0, true), vote("ann", 2, true)}}
	before := x.copied()
	// One frame that stands twice in a film is two frames in what comes of it.
	shared := x.film[1]
	twice := frames(shared, shared)
	for range 2 {
		film, one, e := Do(x.film, lift())
		if !alikeFilms(film, frames(frame(3, 10, 20, 230, 240, 250, 255), example()[1])) || !slices.Equal(one, lifted()) || e != api.OK {
			t.Errorf("Do = %v, %v, %d", film, one, e)
		}
		spoil(film, logOf(one))
		film, run, e := Run(x.film, steps)
		if !alikeFilms(film, behind) || !alikeLogs(run, log) || e != api.OK {
			t.Errorf("Run = %v, %v, %d", film, run, e)
		}
		spoil(film, run)
		film, run, e = Run(x.film, nil)
		if !alikeFilms(film, example()) || len(run) != 0 || e != api.OK {
			t.Errorf("Run = %v, %v, %d", film, run, e)
		}
		spoil(film, run)
		film, _, _ = Undo(behind, log)
		again, _, _ := Redo(x.film, log)
		if !alikeFilms(film, example()) || !alikeFilms(again, behind) {
			t.Errorf("Undo = %v; Redo = %v", film, again)
		}
		spoil(film, nil)
		spoil(again, nil)
		film, _, _ = Undo(x.film, nil)
		again, _, _ = Redo(x.film, logOf(nil))
		if !alikeFilms(film, example()) || !alikeFilms(again, example()) {
			t.Errorf("Undo = %v; Redo = %v", film, again)
		}
		spoil(film, nil)
		spoil(again, nil)
		film, _, _ = Do(twice, step(api.ReLift, 0, 0, 0, 0, 0))
		film[0].Pixels[0]++
		if film[1].Pixels[0] != 10 || twice[0].Pixels[0] != 10 {
			t.Errorf("Do = %v", film)
		}
		_, by, _ := Trace(x.film, steps, 0, 4)
		accepted, _ := Voted(3, x.votes, 1)
		text, _ := Write(log)
		read, _ := Read(text)
		if !slices.Equal(by, []int{0, 2}) || !slices.Equal(accepted, []int{0, 2}) || text != slowText(log) || !alikeLogs(read, log) {
			t.Errorf("Trace: %v; Voted = %v; Write = %q; Read = %v", by, accepted, text, read)
		}
		clear(by[:cap(by)])
		clear(accepted[:cap(accepted)])
		spoil(nil, read)
	}
	if !reflect.DeepEqual(x, before) {
		t.Errorf("the arguments became %v", x)
	}
}

// P8.17: a nil list and an empty one are the same.
func TestNilAndEmpty(t *testing.T) {
	empty := step(api.ReLift, 0, 0, 1, 0, 0, []api.ReBox{}...)
	empty.Table = []byte{}
	expectDo(t, frames(plain(1, 1, 5)), empty, plain(1, 1, 6))
	if at, e := CheckSteps(example(), []api.ReStep{}); at != 0 || e != api.OK {
		t.Errorf("CheckSteps = %d, %d", at, e)
	}
	expectTrace(t, example(), []api.ReStep{}, 1, 1, api.ReAt{Frame: 1, Pixel: 1})
	expectUndo(t, example(), [][]api.ReChange{{}, nil}, example(), 0, api.OK)
	if at, e := Check(frames(api.SnFrame{Wide: 1, High: 1, Pixels: []byte{}})); at != 0 || e != api.ErrArg {
		t.Errorf("Check = %d, %d", at, e)
	}
	if text, e := Write([][]api.ReChange{{}, nil}); text != "LOG 2\nSTEP 0\nSTEP 0\nEND 3\n" || e != api.OK {
		t.Errorf("Write = %q, %d", text, e)
	}
}
