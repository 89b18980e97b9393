package bench

import (
	"math/rand/v2"
	"slices"
	"testing"

	"telecine/api"
)

// lossy is a reel that has lost frames of a picture: its task; which frame of the picture each frame of it was (-1: it is leader); and how many are missing ahead of which frames.
type lossy struct {
	d       *rand.Rand
	task    api.BnTask
	was     []int
	missing map[int]int
	foot    int
	rolls   []rollPart
}

// rollPart is a part of the picture, from a frame on, that is of a roll of stock, from a frame of it on.
type rollPart struct{ from, roll, first int }

// note adds a note of the next number, if there is room for it, maybe with an earlier revision that says something else.
func (l *lossy) note(n api.BnNote) {
	if len(l.task.Notes) > api.MaxBnNotes-2 {
		return
	}
	n.By, n.Number = names()[l.d.IntN(3)], len(l.task.Notes)+1
	if l.d.IntN(6) == 0 {
		n.Rev = from(l.d, 1, 99)
		l.task.Notes = append(l.task.Notes, revised(splice(n.By, n.Number, 0, 9, 9), n.Rev-1))
	}
	l.task.Notes = append(l.task.Notes, n)
}

// blanks adds leader to the end of the reel, with notes of it.
func (l *lossy) blanks(count int) {
	first := len(l.was)
	for range count {
		l.was = append(l.was, -1)
		if l.d.IntN(3) == 0 {
			l.task.Reel.Marks = append(l.task.Reel.Marks, mark(len(l.was)-1, l.d.IntN(3), l.d.IntN(100)))
		}
	}
	last := len(l.was) - 1
	if count > 0 {
		middle := from(l.d, first, last)
		l.note(leader("", 0, first, middle))
		l.note(leader("", 0, from(l.d, first, min(last, middle+1)), last))
		// A splice ahead of leader tells nothing.
		l.note(splice("", 0, from(l.d, first, last), 7, 7))
	}
}

// splices adds notes of a splice at the end of the reel, where so many frames are missing.
func (l *lossy) splices(missing int) {
	for range from(l.d, 1, 3) {
		l.note(splice("", 0, len(l.was), max(0, missing-l.d.IntN(9)), missing+l.d.IntN(9)))
	}
}

// picture adds a frame of the picture to the end of the reel, and maybe the mark that stands at its edge.
func (l *lossy) picture(frame int) {
	part := l.rolls[0]
	for _, p := range l.rolls {
		if p.from <= frame {
			part = p
		}
	}
	stock := part.first + frame - part.from
	if stock%l.foot == 0 && l.d.IntN(3) > 0 {
		l.task.Reel.Marks = append(l.task.Reel.Marks, mark(len(l.was), part.roll, stock/l.foot))
	}
	l.was = append(l.was, frame)
}

// join adds what comes ahead of a frame of the picture, where so many frames are missing.
func (l *lossy) join(missing int) {
	begun := slices.ContainsFunc(l.was, func(frame int) bool { return frame >= 0 })
	if !begun {
		l.blanks(l.d.IntN(2) * l.d.IntN(6))
		l.missing[len(l.was)] = missing
		if l.d.IntN(3) == 0 {
			l.note(splice("", 0, len(l.was), 3, 3)) // it tells nothing
		}
		return
	}
	if missing == 0 && l.d.IntN(40) > 0 {
		return
	}
	kind := l.d.IntN(3)
	if kind > 0 {
		l.blanks(from(l.d, 1, 6))
	}
	l.missing[len(l.was)] = missing
	if kind < 2 {
		l.splices(missing)
	}
}

// anyLossy returns some picture that has lost frames, with true notes, marks and whole.
func anyLossy(d *rand.Rand) *lossy {
	whole := from(d, 1, 300)
	gauges, feet := []int{api.Fm35, api.Fm35, api.Fm16, api.Fm8}, []int{16, 16, 40, 80}
	gauge := d.IntN(4)
	l := &lossy{d: d, missing: map[int]int{}, foot: feet[gauge]}
	for frame := 0; frame < whole; frame += from(d, 50, 300) {
		l.rolls = append(l.rolls, rollPart{frame, len(l.rolls), d.IntN(2000)})
	}
	missing, losing := 0, d.IntN(2)*d.IntN(60)
	for frame := range whole {
		if losing > 0 {
			losing--
			missing++
			continue
		}
		l.join(missing)
		l.picture(frame)
		missing = 0
		if d.IntN(30) == 0 {
			losing = from(d, 1, 40)
		}
	}
	l.blanks(d.IntN(2) * d.IntN(6))
	if len(l.was) == 0 {
		l.blanks(1)
	}
	l.missing[len(l.was)] = missing
	l.task.Reel = reelOf(gauges[gauge], len(l.was), l.task.Reel.Marks...)
	l.task.Whole = span(from(d, max(1, whole-20), whole), from(d, whole, whole+20))
	return l
}

// P5.9 and DOC's P3: of a picture that has lost frames no true note is struck and no true mark is wrong; what is missing, and where each frame was, is in what Gaps and Place return.
func TestMissing(t *testing.T) {
	d := dice(9)
	var tight, gaps, frames int
	for range 1500 {
		l := anyLossy(d)
		if len(l.task.Notes) > api.MaxBnNotes-2 || len(l.task.Reel.Marks) > api.MaxFmMarks {
			continue // there was no room for all of them
		}
		list, struck, wrong, e := Gaps(l.task)
		if len(struck) != 0 || len(wrong) != 0 || e != api.OK {
			t.Fatalf("Gaps of %+v = %v, %v, %v, %d", l.task, list, struck, wrong, e)
		}
		for _, g := range list {
			if !within(l.missing[g.Frame], g.Missing.Lo, g.Missing.Hi) {
				t.Fatalf("%+v: %d are missing, not %v", l.task, l.missing[g.Frame], g)
			}
			if g.Missing.Lo == g.Missing.Hi {
				tight++
			}
			delete(l.missing, g.Frame)
			gaps++
		}
		if len(l.missing) != 0 {
			t.Fatalf("%+v: other gaps: %v", l.task, l.missing)
		}
		for range 20 {
			frame := d.IntN(len(l.was))
			if l.was[frame] >= 0 {
				expectWas(t, l, frame)
				frames++
			}
		}
	}
	if tight < 500 || gaps < 5000 || frames < 10000 {
		t.Errorf("tight, gaps, frames: %d, %d, %d", tight, gaps, frames)
	}
}

// expectWas holds Place and Find of a frame against which frame of the picture it was.
func expectWas(t *testing.T, l *lossy, frame int) {
	t.Helper()
	at, e := Place(l.task, frame)
	if !within(l.was[frame], at.Lo, at.Hi) || e != api.OK {
		t.Fatalf("Place of %+v, %d = %v, %d; it was %d", l.task, frame, at, e, l.was[frame])
	}
	found, e := Find(l.task, l.was[frame])
	if !slices.ContainsFunc(found, func(s api.Span) bool { return within(frame, s.Lo, s.Hi) }) || e != api.OK {
		t.Fatalf("Find of %+v, %d = %v, %d; it is %d", l.task, l.was[frame], found, e, frame)
	}
}

// P5.10: from one frame of picture to the next one both ends of Place rise by 1 at least; within a piece by just 1.
func TestPlacesRise(t *testing.T) {
	d := dice(10)
	inside, across := 0, 0
	for range 2000 {
		x := anyTask(d)
		var last api.Span
		first := true
		l, _ := Pieces(x)
		for _, p := range l {
			for frame := p.From; frame <= p.Until; frame++ {
				at, e := Place(x, frame)
				if e != api.OK {
					break
				}
				lo, hi := at.Lo-last.Lo, at.Hi-last.Hi
				if frame > p.From && (lo != 1 || hi != 1) || !first && (lo < 1 || hi < 1) {
					t.Fatalf("%+v: the place of %d is %v, and before it %v", x, frame, at, last)
				}
				if frame > p.From {
					inside++
				} else {
					across++
				}
				last, first = at, false
			}
		}
	}
	if inside < 10000 || across < 3000 {
		t.Errorf("%d within pieces, %d across", inside, across)
	}
}

// wider reports whether a gap of one list is not within the same one of another list.
func wider(a, b []api.BnGap) bool {
	if len(a) != len(b) {
		return true
	}
	for i := range a {
		if a[i].Frame != b[i].Frame || a[i].Missing.Lo < b[i].Missing.Lo || a[i].Missing.Hi > b[i].Missing.Hi {
			return true
		}
	}
	return false
}

// P5.11: with a narrower whole no gap gets wider.
func TestNarrowerWhole(t *testing.T) {
	d := dice(11)
	narrower := 0
	for range 5000 {
		x := anyTask(d)
		before, _, _, e := Gaps(x)
		x.Whole = anySpan(d, x.Whole.Lo, x.Whole.Hi)
		after, _, _, f := Gaps(x)
		if e != api.OK && f == api.OK || f == api.OK && wider(after, before) {
			t.Fatalf("Gaps of %+v = %v, %d; with a wider whole %v, %d", x, after, f, before, e)
		}
		if f == api.OK && !slices.Equal(before, after) {
			narrower++
		}
	}
	if narrower < 1000 {
		t.Errorf("only %d are narrower", narrower)
	}
}

// P5.11: a further note of a splice where one is noted, behind all others there, makes no gap wider, if it is not struck and no further mark is wrong by it; if it is struck, all gaps stay as they are.
func TestFurtherNote(t *testing.T) {
	d := dice(12)
	var struck, narrower, wrongs int
	for range 10000 {
		x := anyTask(d)
		inside := slices.DeleteFunc(surveyOf(x).gaps, func(g slowGap) bool { return g.kind != api.BnInside || g.hi == api.MaxBnWhole })
		before, strikes, wrong, e := Gaps(x)
		if len(inside) == 0 || e != api.OK {
			continue
		}
		n := splice("zoe", 1, inside[d.IntN(len(inside))].frame, 0, 0)
		n.Missing = anySpan(d, 0, 20)
		x.Notes = append(x.Notes, n)
		after, more, others, f := Gaps(x)
		switch {
		case len(more) > len(strikes):
			if !slices.Equal(after, before) || !slices.Equal(others, wrong) || f != e {
				t.Fatalf("Gaps of %+v = %v, %d; without the note that is struck %v, %d", x, after, f, before, e)
			}
			struck++
		case len(others) > len(wrong):
			wrongs++
		case f == api.OK:
			if wider(after, before) {
				t.Fatalf("Gaps of %+v = %v; without the last note %v", x, after, before)
			}
			if !slices.Equal(after, before) {
				narrower++
			}
		}
	}
	if struck < 300 || narrower < 500 || wrongs < 20 {
		t.Errorf("struck, narrower, wrongs: %d, %d, %d", struck, narrower, wrongs)
	}
}

// P5.6, P5.12: the frames that Find returns for a frame of the whole picture are those that have it in their Place, as spans that are as few as possible.
func TestFound(t *testing.T) {
	d := dice(14)
	several, none := 0, 0
	for range 500 {
		x := anyTask(d)
		places := make([]api.Span, x.Reel.Frames)
		errs := make([]api.Errno, x.Reel.Frames)
		for frame := range places {
			places[frame], errs[frame] = Place(x, frame)
		}
		for whole := range x.Whole.Hi + 3 {
			is := make([]bool, x.Reel.Frames)
			for frame, at := range places {
				is[frame] = errs[frame] == api.OK && within(whole, at.Lo, at.Hi)
			}
			l, e := Find(x, whole)
			if e == api.ErrDown && slices.Contains(errs, api.OK) || e != api.ErrDown && e != api.OK || !slices.Equal(l, spansOf(is)) {
				t.Fatalf("Find of %+v, %d = %v, %d; want %v", x, whole, l, e, spansOf(is))
			}
			if len(l) > 1 {
				several++
			} else if len(l) == 0 {
				none++
			}
		}
	}
	if several < 500 || none < 500 {
		t.Errorf("%d with several spans, %d with none", several, none)
	}
}
