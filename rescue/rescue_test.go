package rescue

import (
	"cmp"
	"math"
	"math/rand/v2"
	"slices"
	"strconv"
	"testing"

	"telecine/api"
)

// machine returns a machine.
func machine(name string, places ...int) api.RsMachine {
	return api.RsMachine{Name: name, Places: places}
}

// reel returns a reel.
func reel(name string, ready, due, risk int, machines ...int) api.RsReel {
	return api.RsReel{Name: name, Machines: machines, Ready: ready, Due: due, Risk: risk}
}

// turn returns a turn.
func turn(reel, machine, day int) api.RsTurn {
	return api.RsTurn{Reel: reel, Machine: machine, Day: day}
}

// late returns a late reel, and those that it is late by.
func late(reel int, by ...int) api.RsLate { return api.RsLate{Reel: reel, By: by} }

// example is the workshop W of the chapter's examples.
func example() api.RsTask {
	return api.RsTask{First: 10, Days: 3, Machines: []api.RsMachine{machine("lab", 1, 1, 0), machine("wet", 0, 1, 1)}, Reels: []api.RsReel{
		reel("dawn", 10, 11, 50, 0), reel("reef", 10, 10, 70, 0), reel("tide", 11, 11, 40, 0, 1),
		reel("moth", 11, 12, 40, 1), reel("lamp", 10, 12, 30, 0), reel("gale", 10, 12, 10, 1),
	}}
}

// exampleTurns are the turns of the example's plan.
func exampleTurns() []api.RsTurn {
	return []api.RsTurn{turn(0, 0, 11), turn(1, 0, 10), turn(2, 1, 11), turn(3, 1, 12)}
}

// exampleLate are the late reels of the example.
func exampleLate() []api.RsLate { return []api.RsLate{late(4, 0, 1), late(5, 0, 1, 2, 3)} }

// changed returns the example's workshop with a change.
func changed(change func(w *api.RsTask)) api.RsTask {
	w := example()
	change(&w)
	return w
}

// sameLate reports whether two lists of late reels are equal.
func sameLate(a, b []api.RsLate) bool {
	return slices.EqualFunc(a, b, func(x, y api.RsLate) bool { return x.Reel == y.Reel && slices.Equal(x.By, y.By) })
}

// dice is a source of numbers that are the same in each run.
func dice(seed uint64) *rand.Rand { return rand.New(rand.NewPCG(seed, 1895)) }

// from returns a number from lo to hi.
func from(d *rand.Rand, lo, hi int) int { return lo + d.IntN(hi-lo+1) }

// some returns some of the numbers before count, ascending.
func some(d *rand.Rand, count int) []int {
	var list []int
	for i := range count {
		if d.IntN(2) == 0 {
			list = append(list, i)
		}
	}
	return list
}

// anyReel returns some reel that a workshop can have.
func anyReel(d *rand.Rand, w api.RsTask, name string) api.RsReel {
	machines := some(d, len(w.Machines))
	if len(machines) == 0 {
		machines = []int{d.IntN(len(w.Machines))}
	}
	ready := w.First + d.IntN(w.Days)
	return reel(name, ready, from(d, ready, w.First+w.Days-1), from(d, 1, 6), machines...)
}

// crowded returns some workshop with at most so many reels, often more than it has places, and of few different risks.
func crowded(d *rand.Rand, reels int) api.RsTask {
	w := api.RsTask{First: d.IntN(100), Days: from(d, 1, 4)}
	for m := range from(d, 1, 3) {
		x := machine("machine-" + strconv.Itoa(m))
		for range w.Days {
			x.Places = append(x.Places, max(0, d.IntN(5)-2))
		}
		w.Machines = append(w.Machines, x)
	}
	for i := range from(d, 0, reels) {
		w.Reels = append(w.Reels, anyReel(d, w, "reel-"+strconv.Itoa(i)))
	}
	return w
}

// copied returns a workshop that shares no memory with w.
func copied(w api.RsTask) api.RsTask {
	w.Machines, w.Reels = slices.Clone(w.Machines), slices.Clone(w.Reels)
	for i := range w.Machines {
		w.Machines[i].Places = slices.Clone(w.Machines[i].Places)
	}
	for i := range w.Reels {
		w.Reels[i].Machines = slices.Clone(w.Reels[i].Machines)
	}
	return w
}

// tables has, for each machine and day of a workshop, how many places are left.
type tables [][]int

// tablesOf returns all places of a workshop.
func tablesOf(w api.RsTask) tables {
	var left tables
	for _, x := range w.Machines {
		left = append(left, slices.Clone(x.Places))
	}
	return left
}

// slowFit tries all ways to give reels the places that are left.
func slowFit(w api.RsTask, reels []int, left tables) bool {
	if len(reels) == 0 {
		return true
	}
	r := w.Reels[reels[0]]
	for _, m := range r.Machines {
		for day := r.Ready - w.First; day <= r.Due-w.First; day++ {
			if left[m][day] == 0 {
				continue
			}
			left[m][day]--
			ok := slowFit(w, reels[1:], left)
			left[m][day]++
			if ok {
				return true
			}
		}
	}
	return false
}

// slowCount returns how many places one of some reels can use.
func slowCount(w api.RsTask, reels []int) int {
	count := 0
	for m, x := range w.Machines {
		for day, places := range x.Places {
			if slices.ContainsFunc(reels, func(i int) bool {
				r := w.Reels[i]
				return slices.Contains(r.Machines, m) && r.Ready <= w.First+day && w.First+day <= r.Due
			}) {
				count += places
			}
		}
	}
	return count
}

// without returns a list without a number, and with another one at its end.
func without(list []int, number, further int) []int {
	list = slices.DeleteFunc(slices.Clone(list), func(n int) bool { return n == number })
	return append(list, further)
}

// slowOrder returns the reels in the order in which they are kept or late: of those that are left always the first one with the greatest Risk.
func slowOrder(w api.RsTask) []int {
	var order []int
	for range w.Reels {
		next := -1
		for i, r := range w.Reels {
			if !slices.Contains(order, i) && (next < 0 || r.Risk > w.Reels[next].Risk) {
				next = i
			}
		}
		order = append(order, next)
	}
	return order
}

// slowKept returns the kept reels, ascending, and the late ones, as they are defined.
func slowKept(w api.RsTask) (kept []int, all []api.RsLate) {
	for _, i := range slowOrder(w) {
		if slowFit(w, append(slices.Clone(kept), i), tablesOf(w)) {
			kept = append(kept, i)
			continue
		}
		x := late(i)
		for _, k := range kept {
			if slowFit(w, without(kept, k, i), tablesOf(w)) {
				x.By = append(x.By, k)
			}
		}
		slices.Sort(x.By)
		all = append(all, x)
	}
	slices.Sort(kept)
	slices.SortFunc(all, func(a, b api.RsLate) int { return cmp.Compare(a.Reel, b.Reel) })
	return kept, all
}

// slowTurns returns the turns of kept reels, as they are defined.
func slowTurns(w api.RsTask, kept []int) []api.RsTurn {
	left := tablesOf(w)
	var turns []api.RsTurn
	for n, i := range kept {
		first := turn(i, math.MaxInt, math.MaxInt)
		for m, x := range left {
			for day := range x {
				r := w.Reels[i]
				earlier := w.First+day < first.Day || w.First+day == first.Day && m < first.Machine
				if !earlier || x[day] == 0 || !slices.Contains(r.Machines, m) || w.First+day < r.Ready || w.First+day > r.Due {
					continue
				}
				x[day]--
				if slowFit(w, kept[n+1:], left) {
					first = turn(i, m, w.First+day)
				}
				x[day]++
			}
		}
		left[first.Machine][first.Day-w.First]--
		turns = append(turns, first)
	}
	return turns
}

// P4.2: the reels of the example, of which some fit, and lists that are none.
func TestFits(t *testing.T) {
	for i, c := range []struct {
		reels []int
		want  bool
		e     api.Errno
	}{
		{nil, true, api.OK},
		{[]int{}, true, api.OK},
		{[]int{0, 1}, true, api.OK},
		{[]int{0, 1, 4}, false, api.OK},
		{[]int{0, 4}, true, api.OK},
		{[]int{1, 4}, true, api.OK},
		{[]int{0, 1, 2, 3}, true, api.OK},
		{[]int{2, 3, 5}, true, api.OK},
		{[]int{0, 2, 3, 5}, true, api.OK},
		{[]int{0, 1, 2, 3, 4, 5}, false, api.OK},
		{[]int{5}, true, api.OK},
		{[]int{6}, false, api.ErrArg},
		{[]int{-1}, false, api.ErrArg},
		{[]int{0, 1, 6}, false, api.ErrArg},
		{[]int{0, 0}, false, api.ErrArg},
		{[]int{1, 0}, false, api.ErrArg},
		{[]int{0, 2, 1}, false, api.ErrArg},
	} {
		if is, e := Fits(example(), c.reels); is != c.want || e != c.e {
			t.Errorf("%d: Fits = %t, %d; want %t, %d", i, is, e, c.want, c.e)
		}
	}
	// Without the place of lab on 11 tide, moth and gale have two places.
	w := changed(func(w *api.RsTask) { w.Machines[0].Places[1] = 0 })
	if is, e := Fits(w, []int{2, 3, 5}); is || e != api.OK {
		t.Errorf("Fits = %t, %d", is, e)
	}
}

// P4.2: some reels fit if, and only if, there is a way to give them places.
func TestFitsAreTried(t *testing.T) {
	d := dice(2)
	fit := [2]int{}
	for range 3000 {
		w := crowded(d, 8)
		reels := some(d, len(w.Reels))
		want := slowFit(w, reels, tablesOf(w))
		if is, e := Fits(w, reels); is != want || e != api.OK {
			t.Fatalf("Fits of %+v, %v = %t, %d", w, reels, is, e)
		}
		if want && len(reels) > 1 {
			fit[0]++
		}
		if !want && slowCount(w, reels) >= len(reels) {
			fit[1]++
		}
	}
	if min(fit[0], fit[1]) < 100 {
		t.Errorf("only so many fit, and do not: %v", fit)
	}
}

// P4.3: the plan of the example, and of changes of it.
func TestPlan(t *testing.T) {
	none := func(w *api.RsTask) { w.Machines[0].Places, w.Machines[1].Places = make([]int, 3), make([]int, 3) }
	for i, c := range []struct {
		change func(w *api.RsTask)
		turns  []api.RsTurn
		late   []api.RsLate
	}{
		{func(w *api.RsTask) {}, exampleTurns(), exampleLate()},
		{func(w *api.RsTask) { w.Reels = nil }, nil, nil},
		{func(w *api.RsTask) { w.Reels = w.Reels[:1] }, []api.RsTurn{turn(0, 0, 10)}, nil},
		{none, nil, []api.RsLate{late(0), late(1), late(2), late(3), late(4), late(5)}},
		// More places on a day are as many reels.
		{func(w *api.RsTask) { w.Machines[1].Places[2] = 2 }, append(exampleTurns(), turn(5, 1, 12)), exampleLate()[:1]},
		{func(w *api.RsTask) { w.Machines[0].Places[0] = 2 }, []api.RsTurn{turn(0, 0, 10), turn(1, 0, 10), turn(2, 1, 11), turn(3, 1, 12), turn(4, 0, 11)}, []api.RsLate{late(5, 0, 1, 2, 3, 4)}},
		// Of the same Risk the first one is kept; a greater one comes before it.
		{func(w *api.RsTask) { w.Reels[4].Risk = 50 }, exampleTurns(), exampleLate()},
		{func(w *api.RsTask) { w.Reels[4].Risk = 51 }, []api.RsTurn{turn(1, 0, 10), turn(2, 1, 11), turn(3, 1, 12), turn(4, 0, 11)}, []api.RsLate{late(0, 1, 4), late(5, 1, 2, 3, 4)}},
		// A late reel is late only by reels that are kept before it: tide and moth, that come behind lamp, are not among them.
		{func(w *api.RsTask) { w.Reels[4].Risk = 45 }, exampleTurns(), exampleLate()},
		{func(w *api.RsTask) { w.Reels[5].Risk = 60 }, []api.RsTurn{turn(0, 0, 11), turn(1, 0, 10), turn(2, 1, 11), turn(5, 1, 12)}, []api.RsLate{late(3, 0, 1, 2, 5), late(4, 0, 1)}},
		// On the same day the first machine that does is taken: tide has lab on 11 if nobody else needs it.
		{func(w *api.RsTask) { w.Reels = w.Reels[2:4] }, []api.RsTurn{turn(0, 0, 11), turn(1, 1, 11)}, nil},
	} {
		turns, all, e := Plan(changed(c.change))
		if !slices.Equal(turns, c.turns) || !sameLate(all, c.late) || e != api.OK {
			t.Errorf("%d: Plan = %v, %v, %d; want %v, %v", i, turns, all, e, c.turns, c.late)
		}
	}
}

// P4.3: turns and late reels are just those of the definitions.
func TestPlanIsDefined(t *testing.T) {
	d := dice(3)
	lates, bys := 0, 0
	for range 4000 {
		w := crowded(d, 8)
		kept, all := slowKept(w)
		turns, got, e := Plan(w)
		if want := slowTurns(w, kept); !slices.Equal(turns, want) || !sameLate(got, all) || e != api.OK {
			t.Fatalf("Plan of %+v = %v, %v, %d; want %v, %v", w, turns, got, e, want, all)
		}
		for _, x := range all {
			lates, bys = lates+1, bys+len(x.By)
		}
	}
	if lates < 1000 || bys < 1000 {
		t.Errorf("only %d are late, by %d", lates, bys)
	}
}

// P4.6: a further reel, with each error that it can have, and with any Risk.
func TestRoom(t *testing.T) {
	plain := func(w *api.RsTask) {}
	more := func(w *api.RsTask) { w.Machines[1].Places[2] = 3 }
	filled := func(count int) func(w *api.RsTask) {
		return func(w *api.RsTask) {
			for i := len(w.Reels); i < count; i++ {
				w.Reels = append(w.Reels, reel("reel-"+strconv.Itoa(i), 10, 10, 1, 0))
			}
		}
	}
	for i, c := range []struct {
		change func(w *api.RsTask)
		x      api.RsReel
		want   bool
		e      api.Errno
	}{
		{plain, reel("new", 12, 12, 1, 1), false, api.OK},
		{plain, reel("new", 10, 12, 1, 1), false, api.OK},
		// A greater Risk does not make room.
		{plain, reel("new", 10, 12, 1000000, 0, 1), false, api.OK},
		{more, reel("new", 12, 12, 1, 1), true, api.OK},
		{more, reel("new", 12, 12, 1000000, 1), true, api.OK},
		{more, reel("new", 11, 12, 1, 0, 1), true, api.OK},
		// Dawn, reef and tide need all other places, also with lamp being late.
		{more, reel("new", 10, 11, 1, 0, 1), false, api.OK},
		{more, reel("new", 10, 12, 1, 0), false, api.OK},
		{more, reel("new", 10, 10, 1, 1), false, api.OK},
		{func(w *api.RsTask) { w.Reels = nil }, reel("dawn", 10, 10, 1, 0), true, api.OK},
		{plain, reel("New", 12, 12, 1, 1), false, api.ErrForm},
		{plain, reel("", 12, 12, 1), false, api.ErrForm},
		{plain, reel("gale", 12, 12, 1, 1), false, api.ErrTwice},
		{plain, reel("gale", 12, 12, 1), false, api.ErrTwice},
		{plain, reel("new", 12, 12, 1), false, api.ErrLong},
		{plain, reel("new", 12, 12, 1, 2), false, api.ErrNone},
		{plain, reel("new", 12, 12, 1, 1, 0), false, api.ErrArg},
		{plain, reel("new", 12, 13, 1, 1), false, api.ErrRange},
		{plain, reel("new", 12, 11, 1, 1), false, api.ErrRange},
		{plain, reel("new", 12, 12, 0, 1), false, api.ErrRange},
		{filled(23), reel("new", 12, 12, 1, 1), false, api.OK},
		{filled(23), reel("New", 12, 12, 1, 1), false, api.ErrForm},
		{filled(24), reel("new", 12, 12, 1, 1), false, api.ErrLong},
		{filled(24), reel("New", 12, 12, 1, 1), false, api.ErrLong},
		{filled(25), reel("New", 12, 12, 1, 1), false, api.ErrLong},
		{func(w *api.RsTask) { w.Reels[5].Risk = 0 }, reel("New", 12, 12, 1, 1), false, api.ErrRange},
	} {
		if is, e := Room(changed(c.change), c.x); is != c.want || e != c.e {
			t.Errorf("%d: Room = %t, %d; want %t, %d", i, is, e, c.want, c.e)
		}
	}
}

// P4.6: a further reel has room if, and only if, it fits together with all kept ones, whatever the Risk of all is.
func TestRoomIsDefined(t *testing.T) {
	d := dice(6)
	count := [2]int{}
	for range 3000 {
		w := crowded(d, 7)
		x := anyReel(d, w, "new")
		kept, _ := slowKept(w)
		y := copied(w)
		y.Reels = append(y.Reels, x)
		want := slowFit(y, append(kept, len(w.Reels)), tablesOf(y))
		if is, e := Room(w, x); is != want || e != api.OK {
			t.Fatalf("Room of %+v, %+v = %t, %d", w, x, is, e)
		}
		if want {
			count[0]++
		} else {
			count[1]++
		}
	}
	if min(count[0], count[1]) < 500 {
		t.Errorf("only so many have room, and have not: %v", count)
	}
}

// DOC's R3: nil and empty lists are the same.
func TestNilAndEmpty(t *testing.T) {
	w := changed(func(w *api.RsTask) { w.Reels = []api.RsReel{} })
	if turns, all, e := Plan(w); len(turns) != 0 || len(all) != 0 || e != api.OK {
		t.Errorf("Plan = %v, %v, %d", turns, all, e)
	}
	if left, e := Judge(w, []api.RsTurn{}); left != 0 || e != api.OK {
		t.Errorf("Judge = %d, %d", left, e)
	}
	if at, e := Accept(w, []api.RsTurn{}, []api.RsLate{}); at != 0 || e != api.OK {
		t.Errorf("Accept = %d, %d", at, e)
	}
}
