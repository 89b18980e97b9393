package rescue

import (
	"math"
	"slices"
	"strconv"
	"strings"
	"testing"

	"telecine/api"
)

// checked is a change of the example's workshop, and what Check returns then.
type checked struct {
	change   func(w *api.RsTask)
	part, at int
	e        api.Errno
}

// every calls all functions that take a workshop but Check, with a number in each place that has one, and returns their errors.
func every(w api.RsTask, n int) [5]api.Errno {
	_, fits := Fits(w, []int{n})
	_, _, plan := Plan(w)
	_, judge := Judge(w, []api.RsTurn{turn(n, n, n)})
	_, accept := Accept(w, []api.RsTurn{turn(n, n, n)}, []api.RsLate{late(n, n)})
	_, room := Room(w, reel("", n, n, n, n))
	return [5]api.Errno{fits, plan, judge, accept, room}
}

// expect runs Check, and all that return its error first, on the example's workshop with each change.
func expect(t *testing.T, list []checked) {
	t.Helper()
	for i, c := range list {
		w := changed(c.change)
		if part, at, e := Check(w); part != c.part || at != c.at || e != c.e {
			t.Errorf("%d: Check = %d, %d, %d; want %d, %d, %d", i, part, at, e, c.part, c.at, c.e)
		}
		if c.e == api.OK {
			continue
		}
		for j, e := range every(w, -1) {
			if e != c.e {
				t.Errorf("%d: function %d: %d; want %d", i, j, e, c.e)
			}
		}
	}
}

// resized gives the example's workshop so many days, machines and reels.
func resized(w *api.RsTask, days, machines, reels int) {
	w.Days, w.Machines, w.Reels = days, nil, nil
	for i := range machines {
		w.Machines = append(w.Machines, machine("machine-"+strconv.Itoa(i), make([]int, max(0, days))...))
	}
	for i := range reels {
		w.Reels = append(w.Reels, reel("reel-"+strconv.Itoa(i), w.First, w.First, 1, 0))
	}
}

// P4.1: the days, and how many machines and reels there may be.
func TestCheckWhole(t *testing.T) {
	expect(t, []checked{
		{func(w *api.RsTask) {}, 0, 0, api.OK},
		{func(w *api.RsTask) { *w = api.RsTask{} }, 1, 0, api.ErrRange},
		{func(w *api.RsTask) { w.First = -1 }, 1, 0, api.ErrRange},
		{func(w *api.RsTask) { w.First = math.MinInt }, 1, 0, api.ErrRange},
		{func(w *api.RsTask) { w.First = math.MaxInt }, 1, 0, api.ErrRange},
		{func(w *api.RsTask) { w.First = 0; resized(w, 3, 2, 6) }, 0, 0, api.OK},
		{func(w *api.RsTask) { w.First = 79998; resized(w, 3, 2, 6) }, 0, 0, api.OK},
		{func(w *api.RsTask) { w.First = 79999; resized(w, 3, 2, 6) }, 1, 0, api.ErrRange},
		{func(w *api.RsTask) { w.First = 80000; resized(w, 1, 2, 6) }, 0, 0, api.OK},
		{func(w *api.RsTask) { w.First = 80001; resized(w, 1, 2, 6) }, 1, 0, api.ErrRange},
		{func(w *api.RsTask) { resized(w, 0, 2, 0) }, 1, 0, api.ErrRange},
		{func(w *api.RsTask) { w.Days = -1 }, 1, 0, api.ErrRange},
		{func(w *api.RsTask) { w.Days = math.MaxInt }, 1, 0, api.ErrRange},
		{func(w *api.RsTask) { w.Days = math.MinInt }, 1, 0, api.ErrRange},
		{func(w *api.RsTask) { resized(w, 60, 2, 6) }, 0, 0, api.OK},
		{func(w *api.RsTask) { resized(w, 61, 2, 6) }, 1, 0, api.ErrRange},
		{func(w *api.RsTask) { w.First, w.Machines = -1, nil }, 1, 0, api.ErrRange},
		{func(w *api.RsTask) { w.Machines = nil }, 1, 0, api.ErrLong},
		{func(w *api.RsTask) { w.Machines = []api.RsMachine{} }, 1, 0, api.ErrLong},
		{func(w *api.RsTask) { resized(w, 3, 1, 6) }, 0, 0, api.OK},
		{func(w *api.RsTask) { resized(w, 3, 4, 6) }, 0, 0, api.OK},
		{func(w *api.RsTask) { resized(w, 3, 5, 6) }, 1, 0, api.ErrLong},
		{func(w *api.RsTask) { w.Reels = nil }, 0, 0, api.OK},
		{func(w *api.RsTask) { resized(w, 3, 1, 24) }, 0, 0, api.OK},
		{func(w *api.RsTask) { resized(w, 3, 1, 25) }, 1, 0, api.ErrLong},
		{func(w *api.RsTask) { resized(w, 3, 1, 25); w.Machines[0].Name = "" }, 1, 0, api.ErrLong},
	})
}

// P4.1: machines; the first one with an error decides, and comes before all reels.
func TestCheckMachines(t *testing.T) {
	first, second := 0, 1
	at := func(i int, change func(m *api.RsMachine), e api.Errno) checked {
		if e == api.OK {
			return checked{func(w *api.RsTask) { change(&w.Machines[i]) }, 0, 0, e}
		}
		return checked{func(w *api.RsTask) { change(&w.Machines[i]) }, 2, i, e}
	}
	expect(t, []checked{
		at(first, func(m *api.RsMachine) { m.Name = "" }, api.ErrForm),
		at(first, func(m *api.RsMachine) { m.Name = "Lab" }, api.ErrForm),
		at(first, func(m *api.RsMachine) { m.Name = "2lab" }, api.ErrForm),
		at(first, func(m *api.RsMachine) { m.Name = "lab-" }, api.ErrForm),
		at(first, func(m *api.RsMachine) { m.Name = strings.Repeat("l", 24) }, api.OK),
		at(first, func(m *api.RsMachine) { m.Name = strings.Repeat("l", 25) }, api.ErrForm),
		at(first, func(m *api.RsMachine) { m.Name = "dawn" }, api.OK),
		at(second, func(m *api.RsMachine) { m.Name = "lab" }, api.ErrTwice),
		at(second, func(m *api.RsMachine) { m.Name, m.Places = "lab", nil }, api.ErrTwice),
		at(second, func(m *api.RsMachine) { m.Name, m.Places = "wet ", nil }, api.ErrForm),
		at(first, func(m *api.RsMachine) { m.Places = nil }, api.ErrArg),
		at(first, func(m *api.RsMachine) { m.Places = []int{1, 1} }, api.ErrArg),
		at(first, func(m *api.RsMachine) { m.Places = []int{1, 1, 1, 1} }, api.ErrArg),
		at(second, func(m *api.RsMachine) { m.Places = []int{-1, 1} }, api.ErrArg),
		at(second, func(m *api.RsMachine) { m.Places = []int{0, 20, 20} }, api.OK),
		at(second, func(m *api.RsMachine) { m.Places = []int{0, 0, 21} }, api.ErrRange),
		at(second, func(m *api.RsMachine) { m.Places = []int{-1, 0, 0} }, api.ErrRange),
		{func(w *api.RsTask) { w.Machines[0].Places[0], w.Machines[1].Name = 21, "" }, 2, 0, api.ErrRange},
		{func(w *api.RsTask) { w.Machines[1].Places[0], w.Reels[0].Name = 21, "" }, 2, 1, api.ErrRange},
	})
}

// P4.1: reels; the first one with an error decides, and of its errors the one named first. Room returns the same error of a further reel.
func TestCheckReels(t *testing.T) {
	for i, c := range []struct {
		change func(r *api.RsReel)
		e      api.Errno
	}{
		{func(r *api.RsReel) { r.Name = "" }, api.ErrForm},
		{func(r *api.RsReel) { r.Name = "moth--2" }, api.ErrForm},
		{func(r *api.RsReel) { r.Name, r.Machines = "Dawn", nil }, api.ErrForm},
		{func(r *api.RsReel) { r.Name = "lab" }, api.OK},
		{func(r *api.RsReel) { r.Name = "dawn" }, api.ErrTwice},
		{func(r *api.RsReel) { r.Name, r.Machines = "tide", nil }, api.ErrTwice},
		{func(r *api.RsReel) { r.Machines = nil }, api.ErrLong},
		{func(r *api.RsReel) { r.Machines, r.Risk = []int{}, 0 }, api.ErrLong},
		{func(r *api.RsReel) { r.Machines = []int{0, 1} }, api.OK},
		{func(r *api.RsReel) { r.Machines = []int{2} }, api.ErrNone},
		{func(r *api.RsReel) { r.Machines = []int{-1, 0} }, api.ErrNone},
		{func(r *api.RsReel) { r.Machines = []int{1, 0, 2} }, api.ErrNone},
		{func(r *api.RsReel) { r.Machines = []int{1, 0} }, api.ErrArg},
		{func(r *api.RsReel) { r.Machines = []int{1, 1} }, api.ErrArg},
		{func(r *api.RsReel) { r.Machines, r.Ready = []int{1, 1}, 9 }, api.ErrArg},
		{func(r *api.RsReel) { r.Ready, r.Due = 10, 12 }, api.OK},
		{func(r *api.RsReel) { r.Ready, r.Due = 10, 10 }, api.OK},
		{func(r *api.RsReel) { r.Ready, r.Due = 12, 12 }, api.OK},
		{func(r *api.RsReel) { r.Ready, r.Due = 9, 12 }, api.ErrRange},
		{func(r *api.RsReel) { r.Ready, r.Due = 9, 9 }, api.ErrRange},
		{func(r *api.RsReel) { r.Ready, r.Due = 10, 13 }, api.ErrRange},
		{func(r *api.RsReel) { r.Ready, r.Due = 13, 13 }, api.ErrRange},
		{func(r *api.RsReel) { r.Ready, r.Due = 12, 11 }, api.ErrRange},
		{func(r *api.RsReel) { r.Ready, r.Due = 12, 9 }, api.ErrRange},
		{func(r *api.RsReel) { r.Ready, r.Due = 0, 2 }, api.ErrRange},
		{func(r *api.RsReel) { r.Risk = 1 }, api.OK},
		{func(r *api.RsReel) { r.Risk = 0 }, api.ErrRange},
		{func(r *api.RsReel) { r.Risk = -1 }, api.ErrRange},
		{func(r *api.RsReel) { r.Risk = 1000000 }, api.OK},
		{func(r *api.RsReel) { r.Risk = 1000001 }, api.ErrRange},
	} {
		row := checked{func(w *api.RsTask) { c.change(&w.Reels[3]) }, 3, 3, c.e}
		if c.e == api.OK {
			row.part, row.at = 0, 0
		}
		expect(t, []checked{row})
		x := example().Reels[3]
		c.change(&x)
		if _, e := Room(changed(func(w *api.RsTask) { w.Reels = slices.Delete(w.Reels, 3, 4) }), x); e != c.e {
			t.Errorf("%d: Room: %d; want %d", i, e, c.e)
		}
	}
	expect(t, []checked{
		{func(w *api.RsTask) { w.Reels[2].Risk, w.Reels[3].Name = 0, "" }, 3, 2, api.ErrRange},
		{func(w *api.RsTask) { w.Reels[3].Name, w.Reels[5].Name = "gale", "dawn" }, 3, 5, api.ErrTwice},
		{func(w *api.RsTask) { w.Reels[0].Name = "gale" }, 3, 5, api.ErrTwice},
	})
}
