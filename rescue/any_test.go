package rescue

import (
	"math"
	"reflect"
	"slices"
	"strconv"
	"strings"
	"testing"

	"telecine/api"
)

// corners are ints at the ends of what an int can be, of the ranges, and around 0.
func corners() []int {
	return []int{math.MinInt, math.MinInt + 1, math.MinInt32, -1, 0, 1, 2, 3, 4, 5, 6, 9, 10, 11, 12, 13, 20, 21, 24, 60, 61, 63, 64, api.MaxDay, api.MaxRsRisk, math.MaxInt32, 1 << 62, math.MaxInt - 1, math.MaxInt}
}

// full is a workshop with as much of everything as the limits allow.
func full() api.RsTask {
	w := api.RsTask{First: api.MaxDay - api.MaxRsDays + 1, Days: api.MaxRsDays}
	for i := range api.MaxRsMachines {
		w.Machines = append(w.Machines, machine(strings.Repeat("m", api.MaxName-1)+strconv.Itoa(i), slices.Repeat([]int{api.MaxRsPlaces}, api.MaxRsDays)...))
	}
	for i := range api.MaxRsReels {
		w.Reels = append(w.Reels, reel(strings.Repeat("r", api.MaxName-2)+strconv.Itoa(10+i), w.First, api.MaxDay, api.MaxRsRisk, 0, 1, 2, 3))
	}
	return w
}

// P4.15 and DOC's P1: numbers far beyond the limits, in each place of a workshop, are accepted, and all functions return the error of Check first.
func TestAnyWorkshop(t *testing.T) {
	places := []func(w *api.RsTask, n int){
		func(w *api.RsTask, n int) { w.First = n }, func(w *api.RsTask, n int) { w.Days = n }, func(w *api.RsTask, n int) { w.Machines[1].Places[1] = n },
		func(w *api.RsTask, n int) { w.Reels[2].Machines[1] = n }, func(w *api.RsTask, n int) { w.Reels[2].Ready = n }, func(w *api.RsTask, n int) { w.Reels[2].Due = n }, func(w *api.RsTask, n int) { w.Reels[2].Risk = n },
	}
	for i, put := range places {
		for _, n := range corners() {
			w := example()
			put(&w, n)
			_, _, e := Check(w)
			for _, m := range corners() {
				for j, f := range every(w, m) {
					if e != api.OK && f != e {
						t.Errorf("place %d is %d: Check: %d; function %d: %d", i, n, e, j, f)
					}
				}
			}
		}
	}
}

// P4.15: numbers far beyond the limits besides a workshop are accepted.
func TestAnyNumbers(t *testing.T) {
	w := example()
	for _, a := range corners() {
		for _, b := range corners() {
			Fits(w, []int{a, b})
			Accept(w, exampleTurns(), []api.RsLate{late(4, a, b), late(b, a)})
			Accept(w, exampleTurns(), []api.RsLate{late(a, 0, 1), late(b, 0, 1, 2, 3)})
			if n, e := Due(decaying(), a, b); e == api.OK && !within(n, 100, 101) {
				t.Errorf("Due of %d, %d = %d", a, b, n)
			}
			for _, c := range corners() {
				Judge(w, []api.RsTurn{turn(a, b, c), turn(c, a, b)})
				Room(w, reel("new", a, b, c, 0))
				Room(w, reel("new", 10, 12, a, b, c))
			}
		}
	}
}

// DOC's R2: with the error of a workshop all other results are zero, whatever they would be without it.
func TestZeroWithErrors(t *testing.T) {
	w := example()
	w.Reels[5].Risk = 0
	if is, e := Fits(w, []int{0, 1}); is || e != api.ErrRange {
		t.Errorf("Fits = %t, %d", is, e)
	}
	if turns, all, e := Plan(w); turns != nil || all != nil || e != api.ErrRange {
		t.Errorf("Plan = %v, %v, %d", turns, all, e)
	}
	if left, e := Judge(w, exampleTurns()); left != 0 || e != api.ErrRange {
		t.Errorf("Judge = %d, %d", left, e)
	}
	if at, e := Accept(w, exampleTurns(), exampleLate()[1:]); at != 0 || e != api.ErrRange {
		t.Errorf("Accept = %d, %d", at, e)
	}
	w.Machines[1].Places[2] = 21
	if is, e := Room(w, reel("new", 12, 12, 1, 1)); is || e != api.ErrRange {
		t.Errorf("Room = %t, %d", is, e)
	}
}

// P4.15: as much as the limits allow: with room for all, and with reels that need all places of some days.
func TestFull(t *testing.T) {
	w := full()
	turns, all, e := Plan(w)
	if len(turns) != 24 || turns[23] != turn(23, 1, w.First) || len(all) != 0 || e != api.OK {
		t.Errorf("Plan = %v, %v, %d", turns, all, e)
	}
	for _, x := range w.Machines {
		for day := range x.Places {
			x.Places[day] = day % 2
		}
	}
	for i := range w.Reels[:12] {
		w.Reels[23-i].Due = w.First + 4
	}
	// Twelve reels have two days with four places each, so that four of them are late; the others come behind these days.
	turns, all, e = Plan(w)
	if len(turns) != 20 || turns[0] != turn(0, 0, w.First+5) || turns[11] != turn(11, 3, w.First+9) || turns[19] != turn(19, 3, w.First+3) || e != api.OK {
		t.Errorf("Plan = %v, %d", turns, e)
	}
	want := []int{12, 13, 14, 15, 16, 17, 18, 19}
	if !sameLate(all, []api.RsLate{late(20, want...), late(21, want...), late(22, want...), late(23, want...)}) {
		t.Errorf("late: %v", all)
	}
	if at, e := Accept(w, turns, all); at != 0 || e != api.OK {
		t.Errorf("Accept = %d, %d", at, e)
	}
	if is, e := Fits(w, append(slices.Clone(want), 20)); is || e != api.OK {
		t.Errorf("Fits = %t, %d", is, e)
	}
	if is, e := Fits(w, want); !is || e != api.OK {
		t.Errorf("Fits = %t, %d", is, e)
	}
}

// P4.15: no argument is modified, also not behind the ends of its lists.
func TestArgumentsStay(t *testing.T) {
	d := dice(17)
	for range 1000 {
		whole := crowded(d, 9)
		whole.Reels = append(whole.Reels, anyReel(d, whole, "behind"))
		w := whole
		w.Reels = whole.Reels[:len(whole.Reels)-1]
		reels := some(d, len(w.Reels))
		turns, all, _ := Plan(w)
		all = append(all, late(0, 1, 2, 3))
		turns = append(turns, turn(9, 9, 9))
		for i := range all {
			all[i].By = append(all[i].By, 7)[:len(all[i].By)]
		}
		x := whole.Reels[len(whole.Reels)-1]
		due, _ := anyDecay(d)
		beforeDue := due
		beforeDue.Days, beforeDue.Tests = slices.Clone(due.Days), slices.Clone(due.Tests)
		before, beforeReels, beforeTurns := copied(whole), slices.Clone(reels), slices.Clone(turns)
		var beforeLate []api.RsLate
		for _, x := range all {
			beforeLate = append(beforeLate, late(x.Reel, slices.Clone(x.By[:cap(x.By)])...))
		}
		Check(w)
		every(w, 0)
		Fits(w, reels)
		Judge(w, turns[:len(turns)-1])
		Accept(w, turns[:len(turns)-1], all[:len(all)-1])
		Room(w, x)
		Due(due, due.First, 0)
		for i := range all {
			all[i].By = all[i].By[:cap(all[i].By)]
		}
		if !reflect.DeepEqual(whole, before) || !slices.Equal(reels, beforeReels) || !slices.Equal(turns, beforeTurns) || !sameLate(all, beforeLate) || !reflect.DeepEqual(due, beforeDue) {
			t.Fatalf("%+v became %+v; %v became %v; %v became %v; %v became %v; %+v became %+v", before, whole, beforeReels, reels, beforeTurns, turns, beforeLate, all, beforeDue, due)
		}
	}
}

// P4.15: results are new memory: what is done to them changes neither an argument, nor a later result, nor another part of the same one.
func TestResultsAreNewMemory(t *testing.T) {
	w := example()
	for range 2 {
		turns, all, e := Plan(w)
		if !slices.Equal(turns, exampleTurns()) || !sameLate(all, exampleLate()) || e != api.OK {
			t.Errorf("Plan = %v, %v, %d", turns, all, e)
		}
		clear(turns)
		first := all[0].By[:cap(all[0].By)]
		for i := range first {
			first[i] = 9
		}
		if !slices.Equal(all[1].By, []int{0, 1, 2, 3}) {
			t.Errorf("late: %v", all)
		}
		clear(all[1].By)
		clear(all)
	}
	if !reflect.DeepEqual(w, example()) {
		t.Errorf("the workshop became %+v", w)
	}
}
