package rescue

import (
	"slices"

	"telecine/api"
	"telecine/film"
)

// within reports whether a number is from lo to hi.
func within(n, lo, hi int) bool { return lo <= n && n <= hi }

// isIndex reports whether a number is the index of one of so many elements.
func isIndex(n, count int) bool { return within(n, 0, count-1) }

// areIndices reports whether all numbers are indices of so many elements.
func areIndices(list []int, count int) bool {
	return !slices.ContainsFunc(list, func(n int) bool { return !isIndex(n, count) })
}

// ascends reports whether each number is above the one before it.
func ascends(list []int) bool {
	for i := 1; i < len(list); i++ {
		if list[i] <= list[i-1] {
			return false
		}
	}
	return true
}

// firstError returns the first of some elements with an error, and its error.
func firstError(count int, check func(i int) api.Errno) (at int, e api.Errno) {
	for i := range count {
		if e := check(i); e != api.OK {
			return i, e
		}
	}
	return 0, api.OK
}

// nameError returns the error of the name of an element of a list: it is none, or that of one before it.
func nameError[T any](list []T, i int, name func(T) string) api.Errno {
	own := name(list[i])
	switch {
	case !film.Name(own):
		return api.ErrForm
	case slices.ContainsFunc(list[:i], func(x T) bool { return name(x) == own }):
		return api.ErrTwice
	}
	return api.OK
}

// Check returns the part, the index in it and the error of a workshop.
func Check(t api.RsTask) (part, at int, e api.Errno) {
	if !within(t.Days, 1, api.MaxRsDays) || !within(t.First, 0, api.MaxDay-t.Days+1) {
		return 1, 0, api.ErrRange
	}
	if !within(len(t.Machines), 1, api.MaxRsMachines) || len(t.Reels) > api.MaxRsReels {
		return 1, 0, api.ErrLong
	}
	w := workshop{t}
	if at, e := firstError(len(t.Machines), w.machineError); e != api.OK {
		return 2, at, e
	}
	if at, e := firstError(len(t.Reels), w.reelError); e != api.OK {
		return 3, at, e
	}
	return 0, 0, api.OK
}

// machineError returns the error of a machine.
func (w workshop) machineError(i int) api.Errno {
	if e := nameError(w.Machines, i, func(m api.RsMachine) string { return m.Name }); e != api.OK {
		return e
	}
	places := w.Machines[i].Places
	switch {
	case len(places) != w.Days:
		return api.ErrArg
	case slices.ContainsFunc(places, func(n int) bool { return !within(n, 0, api.MaxRsPlaces) }):
		return api.ErrRange
	}
	return api.OK
}

// reelError returns the error of a reel.
func (w workshop) reelError(i int) api.Errno {
	if e := nameError(w.Reels, i, func(r api.RsReel) string { return r.Name }); e != api.OK {
		return e
	}
	r, last := w.Reels[i], w.First+w.Days-1
	switch {
	case len(r.Machines) == 0:
		return api.ErrLong
	case !areIndices(r.Machines, len(w.Machines)):
		return api.ErrNone
	case !ascends(r.Machines):
		return api.ErrArg
	case !within(r.Ready, w.First, last) || !within(r.Due, r.Ready, last) || !within(r.Risk, 1, api.MaxRsRisk):
		return api.ErrRange
	}
	return api.OK
}
