package align

import (
	"math"
	"reflect"
	"slices"
	"strconv"
	"testing"

	"telecine/api"
)

// corners are ints at the ends of what an int can be, of the ranges, and around 0.
func corners() []int {
	return []int{math.MinInt, math.MinInt + 1, math.MinInt32, -1, 0, 1, 2, 3, 4, 5, 9, 10, 40, 41, 60, 100, 200, 201, 999, 1000, api.MaxFrames, api.MaxFrames + 1, math.MaxInt32, 1 << 62, math.MaxInt - 1, math.MaxInt}
}

// P6.16 and DOC's P1: numbers far beyond the limits, in each place of an element, are accepted, and all functions return the error of Check first.
func TestAnyElement(t *testing.T) {
	places := []func(x *api.AlElement, n int){
		func(x *api.AlElement, n int) { x.Grade = n }, func(x *api.AlElement, n int) { x.Shots[0].Mark = n }, func(x *api.AlElement, n int) { x.Shots[3].Mark = n },
		func(x *api.AlElement, n int) { x.Shots[0].Frames = n }, func(x *api.AlElement, n int) { x.Shots[3].Frames = n }, func(x *api.AlElement, n int) { x.Shots[2] = shot(n, n) },
	}
	for i, put := range places {
		for _, n := range corners() {
			l := example()
			put(&l[0], n)
			_, e := Check(l[0])
			for _, m := range corners() {
				two, turned, list := ofTwo(l[0], l[1], m, m, pairs(m, m)), ofTwo(l[1], l[0], m, m, pairs(m, m)), ofList(l, []int{m})
				if e != api.OK && (two != all(e) || turned != all(e) || list != all(e)) {
					t.Errorf("place %d is %d: Check: %d; of two with %d: %v, %v; of a list: %v", i, n, e, m, two, turned, list)
				}
			}
		}
	}
}

// P6.16: numbers far beyond the limits are accepted besides elements.
func TestAnyNumbers(t *testing.T) {
	l := example()
	for _, a := range corners() {
		for _, b := range corners() {
			_, best := All(l[0], l[1], a, b)
			if ok := within(a, 0, api.MaxFrames) && within(b, 1, api.MaxAlAll); ok != (best == api.OK) || !ok && best != api.ErrRange {
				t.Errorf("All with %d, at most %d: %d", a, b, best)
			}
			_, judge := Judge(l[0], l[1], 10, pairs(a, b))
			if ok := within(a, 0, 3) && within(b, 0, 3); ok == (judge == api.ErrArg) {
				t.Errorf("Judge by %d, %d: %d", a, b, judge)
			}
			_, lost := Lost(l, []int{a, b})
			if ok := within(a, 1, 999) && within(b, 1, 999); ok == (lost == api.ErrRange) {
				t.Errorf("Lost by %d, %d: %d", a, b, lost)
			}
		}
	}
}

// P6.16: longer lists than there can be are accepted.
func TestAnyLengths(t *testing.T) {
	long, l := alike("long", 100000, 5), example()
	if e := ofTwo(l[0], long, 0, 1, nil); e != all(api.ErrLong) {
		t.Errorf("of two: %v", e)
	}
	if e := ofList([]api.AlElement{long}, make([]int, 100000)); e != all(api.ErrLong) {
		t.Errorf("of a list: %v", e)
	}
	if n, e := Judge(l[0], l[1], 0, make([]api.AlPair, 100000)); n != 0 || e != api.AlErrPair {
		t.Errorf("Judge = %d, %d", n, e)
	}
}

// DOC's R2: with an error all other results are zero, whatever they would be without it.
func TestZeroWithErrors(t *testing.T) {
	l := example()
	bad := graded(l[0], 10)
	for _, slack := range []int{0, -1} {
		if worth, many, e := Best(bad, l[0], slack); worth != 0 || many != 0 || e != api.ErrRange {
			t.Errorf("Best = %d, %d, %d", worth, many, e)
		}
		if all, e := All(l[0], bad, slack, 5); all != nil || e != api.ErrRange {
			t.Errorf("All = %v, %d", all, e)
		}
		if sure, may, e := Surely(l[0], bad, slack); sure != nil || may != nil || e != api.ErrRange {
			t.Errorf("Surely = %v, %v, %d", sure, may, e)
		}
		if worth, e := Judge(l[0], bad, slack, pairs(0, 0)); worth != 0 || e != api.ErrRange {
			t.Errorf("Judge = %d, %d", worth, e)
		}
	}
	if worth, many, e := Best(l[0], l[1], -1); worth != 0 || many != 0 || e != api.ErrRange {
		t.Errorf("Best = %d, %d, %d", worth, many, e)
	}
	if sure, may, e := Surely(l[0], l[1], 200001); sure != nil || may != nil || e != api.ErrRange {
		t.Errorf("Surely = %v, %v, %d", sure, may, e)
	}
	l[1] = graded(l[1], -1)
	if marks, only, e := Whole(l); marks != nil || only || e != api.ErrRange {
		t.Errorf("Whole = %v, %t, %d", marks, only, e)
	}
	if round, e := Round(append(lists([]int{1, 2}, []int{2, 1}), l[1])); round != nil || e != api.ErrRange {
		t.Errorf("Round = %v, %d", round, e)
	}
	if gaps, e := Lost(l, []int{9}); gaps != nil || e != api.ErrRange {
		t.Errorf("Lost = %v, %d", gaps, e)
	}
	if gaps, e := Lost(l[:1], []int{9, 0}); gaps != nil || e != api.ErrRange {
		t.Errorf("Lost = %v, %d", gaps, e)
	}
	if picks, frames, e := Version(l, []int{1}); picks != nil || frames != 0 || e != api.ErrRange {
		t.Errorf("Version = %v, %d, %d", picks, frames, e)
	}
	if picks, frames, e := Version(l[:1], []int{1, 0}); picks != nil || frames != 0 || e != api.ErrRange {
		t.Errorf("Version = %v, %d, %d", picks, frames, e)
	}
}

// P6.16: no argument is modified, also not behind the ends of its lists.
func TestArgumentsStay(t *testing.T) {
	d := dice(18)
	for range 1500 {
		a, b := anyTwo(d, 9)
		whole := append(anyLists(d, d.IntN(2) == 0), a, b)
		for i := range whole {
			whole[i].Name = "x" + strconv.Itoa(i)
			whole[i].Shots = append(whole[i].Shots, shot(1000, 0))
		}
		before := copied(whole)
		l := slices.Clone(whole)
		for i := range l {
			l[i].Shots = l[i].Shots[:len(l[i].Shots)-1]
		}
		l = l[:len(l)-1]
		script, list := append(anyScript(d), 1000), pairs(0, 0, 1, 1, 9, 9)
		scriptBefore, listBefore := slices.Clone(script), slices.Clone(list)
		for _, x := range l {
			Check(x)
			ofTwo(x, l[0], d.IntN(5), 200, list[:2])
		}
		ofList(l, script[:len(script)-1])
		if !reflect.DeepEqual(whole, before) || !slices.Equal(script, scriptBefore) || !slices.Equal(list, listBefore) {
			t.Fatalf("%v became %v; %v became %v; %v became %v", before, whole, scriptBefore, script, listBefore, list)
		}
	}
}

// P6.16: results are new memory: what is done to them changes neither an argument, nor another part of the result, nor a later result.
func TestResultsAreNewMemory(t *testing.T) {
	l, script := example(), []int{1, 9, 2, 7, 3}
	before := copied(l)
	few, two := alike("few", 4, 5), alike("two", 2, 5)
	bad := lists([]int{1, 2}, []int{2, 1})
	for range 2 {
		all, _ := All(few, two, 0, 200)
		want := [][]api.AlPair{pairs(0, 0, 1, 1), pairs(0, 0, 2, 1), pairs(0, 0, 3, 1), pairs(1, 0, 2, 1), pairs(1, 0, 3, 1), pairs(2, 0, 3, 1)}
		for i, x := range all {
			if !slices.Equal(x, want[i]) {
				t.Errorf("%d: All = %v; want %v", i, x, want[i])
			}
			clear(x[:cap(x)])
		}
		sure, may, _ := Surely(l[0], l[1], 10)
		clear(sure[:cap(sure)])
		if !slices.Equal(may, pairs(0, 0, 2, 1, 3, 2)) {
			t.Errorf("Surely = %v", may)
		}
		clear(may[:cap(may)])
		marks, _, _ := Whole(l)
		round, _ := Round(bad)
		gaps, _ := Lost(l, script)
		picks, frames, _ := Version(l, script)
		if !slices.Equal(marks, []int{1, 2, 3, 5, 4}) || !slices.Equal(round, []int{1, 2}) || !slices.Equal(gaps, []api.AlGap{gap(9, 1, 2), gap(7, 2, 3)}) || len(picks) != 3 || frames != 230 {
			t.Errorf("Whole = %v; Round = %v; Lost = %v; Version = %v, %d", marks, round, gaps, picks, frames)
		}
		clear(marks[:cap(marks)])
		clear(round[:cap(round)])
		clear(gaps[:cap(gaps)])
		clear(picks[:cap(picks)])
	}
	if !reflect.DeepEqual(l, before) || !slices.Equal(script, []int{1, 9, 2, 7, 3}) {
		t.Errorf("the arguments became %v, %v", l, script)
	}
}

// P6.16: a nil list and an empty one are the same, also inside of elements.
func TestNilAndEmpty(t *testing.T) {
	none, empty := element("x"), api.AlElement{Name: "x", Shots: []api.AlShot{}}
	for _, a := range []api.AlElement{none, empty} {
		for _, b := range []api.AlElement{none, empty} {
			expectBest(t, a, b, 0, 0, 1)
			expectAll(t, a, b, 0, 5, nil)
			expectSurely(t, a, b, 0, nil, nil)
			expectJudge(t, a, b, 0, []api.AlPair{}, 0, api.OK)
		}
		expectWhole(t, []api.AlElement{a}, nil, true)
		expectVersion(t, []api.AlElement{a}, []int{}, 0)
	}
	expectWhole(t, []api.AlElement{}, nil, true)
	expectLost(t, []api.AlElement{}, []int{}, nil...)
}
