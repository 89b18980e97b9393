package bench

import (
	"math"
	"reflect"
	"slices"
	"testing"

	"telecine/api"
)

// corners are ints at the ends of what an int can be, of the ranges, and around 0.
func corners() []int {
	return []int{math.MinInt, math.MinInt + 1, math.MinInt32, -1, 0, 1, 2, 3, 4, 35, 50, 99, 100, 149, 999, 1000, api.MaxFrames - 1, api.MaxFrames, api.MaxBnWhole, api.MaxBnWhole + 1, math.MaxInt32, 1 << 62, math.MaxInt - 1, math.MaxInt}
}

// P5.14 and DOC's P1: numbers far beyond the limits, in each place of a task, are accepted, and all functions return the error of Check first.
func TestAnyTask(t *testing.T) {
	places := []func(x *api.BnTask, n int){
		func(x *api.BnTask, n int) { x.Reel.Gauge = n }, func(x *api.BnTask, n int) { x.Reel.Frames = n }, func(x *api.BnTask, n int) { x.Reel.Marks[1].Frame = n }, func(x *api.BnTask, n int) { x.Reel.Marks[1].Number = n },
		func(x *api.BnTask, n int) { x.Whole.Lo = n }, func(x *api.BnTask, n int) { x.Whole.Hi = n }, func(x *api.BnTask, n int) { x.Whole = span(n, n) },
		func(x *api.BnTask, n int) { x.Notes[1].Number = n }, func(x *api.BnTask, n int) { x.Notes[1].Rev = n }, func(x *api.BnTask, n int) { x.Notes[1].Kind = n },
		func(x *api.BnTask, n int) { x.Notes[1].From = n }, func(x *api.BnTask, n int) { x.Notes[1].Until = n }, func(x *api.BnTask, n int) { x.Notes[1].From, x.Notes[1].Until = n, n },
		func(x *api.BnTask, n int) { x.Notes[1].Missing.Lo = n }, func(x *api.BnTask, n int) { x.Notes[1].Missing.Hi = n }, func(x *api.BnTask, n int) { x.Notes[1].Missing = span(n, n) },
		func(x *api.BnTask, n int) { x.Notes[0].Until = n }, func(x *api.BnTask, n int) { x.Notes[3].From = n },
	}
	for i, put := range places {
		for _, n := range corners() {
			x := example()
			put(&x, n)
			_, _, e := Check(x)
			for _, m := range corners() {
				for j, f := range every(x, m) {
					if e != api.OK && f != e || e == api.OK && j < 2 && f != api.OK {
						t.Errorf("place %d is %d: Check: %d; function %d of %d: %d", i, n, e, j, m, f)
					}
				}
			}
		}
	}
}

// P5.14: numbers far beyond the limits are accepted in notes that are merged, and in cuts.
func TestAnyNumbers(t *testing.T) {
	for _, a := range corners() {
		for _, b := range corners() {
			for _, c := range corners() {
				Merge([][]api.BnNote{{splice("ada", a, b, c, c)}, {tear("ada", a, b, c)}, {splice("ada", 1, 1, b, c)}})
				After(a, cuts([2]int{b, c}), b)
				Before(a, cuts([2]int{b, c}), b)
				After(1000, cuts([2]int{1, 2}, [2]int{a, b}), c)
				Before(1000, cuts([2]int{1, 2}, [2]int{a, b}), c)
			}
		}
	}
}

// DOC's R2: with an error all other results are zero, whatever they would be without it.
func TestZeroWithErrors(t *testing.T) {
	x := example()
	x.Notes = append(x.Notes, splice("cy", 1, 900, 11, 12), tear("cy", 2, 5, 4))
	x.Reel.Marks[1].Number = 19
	if l, e := Merge([][]api.BnNote{x.Notes}); l != nil || e != api.ErrArg {
		t.Errorf("Merge = %v, %d", l, e)
	}
	if l, e := Pieces(x); l != nil || e != api.ErrArg {
		t.Errorf("Pieces = %v, %d", l, e)
	}
	if l, e := Torn(x); l != nil || e != api.ErrArg {
		t.Errorf("Torn = %v, %d", l, e)
	}
	if gaps, struck, wrong, e := Gaps(x); gaps != nil || struck != nil || wrong != nil || e != api.ErrArg {
		t.Errorf("Gaps = %v, %v, %v, %d", gaps, struck, wrong, e)
	}
	if at, e := Place(x, 600); at != (api.Span{}) || e != api.ErrArg {
		t.Errorf("Place = %v, %d", at, e)
	}
	if l, e := Find(x, 100); l != nil || e != api.ErrArg {
		t.Errorf("Find = %v, %d", l, e)
	}
}

// full is a task with as much of everything as the limits allow: each second foot is lost.
func full() api.BnTask {
	x := api.BnTask{Reel: reelOf(api.Fm8, api.MaxFrames), Whole: span(1, api.MaxBnWhole)}
	for i := range api.MaxFmMarks {
		x.Reel.Marks = append(x.Reel.Marks, mark(80*i, 99, 2*i))
	}
	for i := range api.MaxBnNotes {
		x.Notes = append(x.Notes, splice("ada", i+1, 80*i+1, 0, api.MaxBnWhole))
	}
	return x
}

// P5.14: as much as the limits allow.
func TestFull(t *testing.T) {
	x := full()
	gaps, struck, wrong, e := Gaps(x)
	if len(gaps) != 62 || len(struck) != 0 || len(wrong) != 0 || e != api.OK {
		t.Fatalf("Gaps = %v, %v, %v, %d", gaps, struck, wrong, e)
	}
	left := api.MaxBnWhole - api.MaxFrames - 59*80
	for i, g := range gaps {
		want := gap(80*i-79, api.BnInside, 80, 80)
		switch i {
		case 0:
			want = gap(0, api.BnHead, 0, left)
		case 60:
			want = gap(80*59+1, api.BnInside, 0, left)
		case 61:
			want = gap(api.MaxFrames, api.BnTail, 0, left)
		}
		if g != want {
			t.Errorf("%d: %v; want %v", i, g, want)
		}
	}
	last := api.MaxFrames - 1
	if at, e := Place(x, last); at != span(last+59*80, api.MaxBnWhole-1) || e != api.OK {
		t.Errorf("Place = %v, %d", at, e)
	}
	if l, e := Find(x, api.MaxBnWhole-1); !slices.Equal(l, []api.Span{span(last, last)}) || e != api.OK {
		t.Errorf("Find = %v, %d", l, e)
	}
}

// P5.14: no argument is modified, also not behind the ends of its lists.
func TestArgumentsStay(t *testing.T) {
	d := dice(15)
	for range 1000 {
		whole := anyTask(d)
		whole.Notes = append(whole.Notes, anyNote(d, whole.Reel.Frames))
		whole.Reel.Marks = append(whole.Reel.Marks, mark(0, 1, 2))
		x := whole
		x.Notes, x.Reel.Marks = whole.Notes[:len(whole.Notes)-1], whole.Reel.Marks[:len(whole.Reel.Marks)-1]
		list, _ := anyCuts(d, 50)
		lists := [][]api.BnNote{x.Notes, anyNotes(d, 50, 9), whole.Notes[:len(whole.Notes)/2]}
		before, beforeCuts, beforeNotes := copied(whole), slices.Clone(list), slices.Clone(lists[1])
		Check(x)
		every(x, d.IntN(x.Reel.Frames))
		Merge(lists)
		After(50, list, 20)
		Before(50, list, 20)
		if !reflect.DeepEqual(whole, before) || !slices.Equal(list, beforeCuts) || !slices.Equal(lists[1], beforeNotes) {
			t.Fatalf("%+v became %+v; %v became %v; %v became %v", before, whole, beforeCuts, list, beforeNotes, lists[1])
		}
		if len(lists) != 3 || len(lists[0]) != len(x.Notes) || len(lists[2]) != len(whole.Notes)/2 {
			t.Fatalf("lists became %v", lists)
		}
	}
}

// P5.14: results are new memory: what is done to them changes neither an argument nor a later result.
func TestResultsAreNewMemory(t *testing.T) {
	x := example()
	x.Notes = append(x.Notes, splice("cy", 1, 900, 11, 12))
	x.Reel.Marks[1].Number = 16
	before := copied(x)
	for range 2 {
		notes, _ := Merge([][]api.BnNote{x.Notes})
		pieces, _ := Pieces(x)
		torn, _ := Torn(x)
		gaps, struck, wrong, _ := Gaps(x)
		found, _ := Find(x, 100)
		if len(notes) != 8 || notes[0].By != "ada" || len(pieces) != 5 || pieces[1] != piece(50, 149) || !slices.Equal(torn, []api.Span{span(520, 530)}) {
			t.Errorf("Merge = %v; Pieces = %v; Torn = %v", notes, pieces, torn)
		}
		if len(gaps) != 5 || gaps[1] != gap(150, 2, 28, 40) || !slices.Equal(struck, []api.BnStrike{strike("cy", 1, "ben", 3)}) || !slices.Equal(wrong, []int{1}) || len(found) == 0 || found[0].Lo == 0 {
			t.Errorf("Gaps = %v, %v, %v; Find = %v", gaps, struck, wrong, found)
		}
		clear(notes[:cap(notes)])
		clear(pieces[:cap(pieces)])
		clear(torn[:cap(torn)])
		clear(gaps[:cap(gaps)])
		clear(struck[:cap(struck)])
		clear(wrong[:cap(wrong)])
		clear(found[:cap(found)])
	}
	if !reflect.DeepEqual(x, before) {
		t.Errorf("the task became %+v", x)
	}
}
