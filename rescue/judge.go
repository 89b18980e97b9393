package rescue

import (
	"slices"

	"telecine/api"
)

// Judge returns what a plan leaves.
func Judge(t api.RsTask, turns []api.RsTurn) (left int, e api.Errno) {
	w, e := workshopOf(t)
	if e != api.OK {
		return 0, e
	}
	if f := faultOf(func() { w.judge(turns) }); f.e != api.OK {
		return 0, f.e
	}
	has := turned(turns)
	for i, r := range w.Reels {
		if !has[i] {
			left += r.Risk
		}
	}
	return left, api.OK
}

// Accept checks a plan and its proof.
func Accept(t api.RsTask, turns []api.RsTurn, late []api.RsLate) (at int, e api.Errno) {
	w, e := workshopOf(t)
	if e != api.OK {
		return 0, e
	}
	f := faultOf(func() {
		w.judge(turns)
		w.accept(turned(turns), late)
	})
	return f.at, f.e
}

// fault is what is wrong with a plan, or with an element of its proof.
type fault struct {
	at int
	e  api.Errno
}

// refuse panics with a fault, if it applies.
func refuse(applies bool, at int, e api.Errno) {
	if applies {
		panic(fault{at, e})
	}
}

// faultOf returns the fault with which a check ends, if there is one.
func faultOf(check func()) (f fault) {
	defer func() {
		if x, ok := recover().(fault); ok {
			f = x
		}
	}()
	check()
	return fault{}
}

// judge panics with the fault of a plan.
func (w workshop) judge(turns []api.RsTurn) {
	for i, x := range turns {
		refuse(!isIndex(x.Reel, len(w.Reels)) || !isIndex(x.Machine, len(w.Machines)), 0, api.ErrArg)
		refuse(i > 0 && x.Reel <= turns[i-1].Reel, 0, api.ErrArg)
	}
	for _, x := range turns {
		r := w.Reels[x.Reel]
		refuse(!slices.Contains(r.Machines, x.Machine) || !within(x.Day, r.Ready, r.Due), 0, api.RsErrPlace)
	}
	used := map[slot]int{}
	for _, x := range turns {
		s := slot{x.Day - w.First, x.Machine}
		used[s]++
		refuse(used[s] > w.Machines[s.machine].Places[s.day], 0, api.RsErrFull)
	}
}

// turned returns which reels have a turn in a plan without a fault.
func turned(turns []api.RsTurn) (has [api.MaxRsReels]bool) {
	for _, x := range turns {
		has[x.Reel] = true
	}
	return has
}

// accept panics with the fault of a proof for a plan in which some reels have a turn.
func (w workshop) accept(has [api.MaxRsReels]bool, late []api.RsLate) {
	for i, x := range late {
		refuse(!isIndex(x.Reel, len(w.Reels)) || has[x.Reel], i, api.RsErrLate)
		refuse(i > 0 && x.Reel <= late[i-1].Reel, i, api.RsErrLate)
		refuse(!w.proves(has, x), i, api.RsErrBy)
	}
	for _, x := range late {
		has[x.Reel] = true
	}
	refuse(slices.Contains(has[:len(w.Reels)], false), len(late), api.RsErrLate)
}

// proves reports whether the reels by which one without a turn is late prove that nothing is lost by it.
func (w workshop) proves(has [api.MaxRsReels]bool, x api.RsLate) bool {
	if !areIndices(x.By, len(w.Reels)) || !ascends(x.By) {
		return false
	}
	for _, i := range x.By {
		if !has[i] || w.Reels[i].Risk < w.Reels[x.Reel].Risk {
			return false
		}
	}
	count := 0
	for range w.places(append(slices.Clone(x.By), x.Reel)...) {
		count++
	}
	return count <= len(x.By)
}
