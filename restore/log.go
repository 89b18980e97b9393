package restore

import (
	"cmp"
	"slices"

	"telecine/api"
)

// compare returns -1, 0 or 1: whether the pixel of a change comes before that of another one, is the same, or comes behind it.
func compare(a, b api.ReChange) int {
	return cmp.Or(cmp.Compare(a.Frame, b.Frame), cmp.Compare(a.Pixel, b.Pixel))
}

// inOrder reports whether the changes of a step are in order.
func inOrder(changes []api.ReChange) bool {
	for i, c := range changes {
		if !within(c.Frame, 0, api.MaxReFrames-1) || !within(c.Pixel, 0, api.MaxSnSide*api.MaxSnSide-1) {
			return false
		}
		if c.Old == c.New || i > 0 && compare(changes[i-1], c) >= 0 {
			return false
		}
	}
	return true
}

// checkLog returns the error of a log, with the first step that has one.
func checkLog(l []api.SnFrame, log [][]api.ReChange) (at int, e api.Errno) {
	if len(log) > api.MaxReSteps {
		return 0, api.ErrLong
	}
	missing := func(c api.ReChange) bool { return !has(l, c.Frame, c.Pixel) }
	for i, changes := range log {
		if slices.ContainsFunc(changes, missing) {
			return i, api.ErrNone
		}
		if !inOrder(changes) {
			return i, api.ErrArg
		}
	}
	return 0, api.OK
}

// set changes the pixels of a film from Old to New; it reports whether all of them were Old.
func set(film []api.SnFrame, changes []api.ReChange) bool {
	for _, c := range changes {
		level := &film[c.Frame].Pixels[c.Pixel]
		if *level != c.Old {
			return false
		}
		*level = c.New
	}
	return true
}

// reversed returns the changes that take back others.
func reversed(changes []api.ReChange) []api.ReChange {
	back := slices.Clone(changes)
	for i, c := range changes {
		back[i].Old, back[i].New = c.New, c.Old
	}
	return back
}

// opened returns a copy of a film whose pixels the changes of a log can be set in; or the error of the film, or that of the log with its step.
func opened(l []api.SnFrame, log [][]api.ReChange) (film []api.SnFrame, at int, e api.Errno) {
	if _, e := Check(l); e != api.OK {
		return nil, 0, e
	}
	if at, e := checkLog(l, log); e != api.OK {
		return nil, at, e
	}
	return copied(l), 0, api.OK
}

// Undo takes back the changes of a log.
func Undo(l []api.SnFrame, log [][]api.ReChange) (film []api.SnFrame, at int, e api.Errno) {
	film, at, e = opened(l, log)
	if e != api.OK {
		return nil, at, e
	}
	for i, changes := range slices.Backward(log) {
		if !set(film, reversed(changes)) {
			return nil, i, api.ReErrOld
		}
	}
	return film, 0, api.OK
}

// Redo makes the changes of a log.
func Redo(l []api.SnFrame, log [][]api.ReChange) (film []api.SnFrame, at int, e api.Errno) {
	film, at, e = opened(l, log)
	if e != api.OK {
		return nil, at, e
	}
	for i, changes := range log {
		if !set(film, changes) {
			return nil, i, api.ReErrOld
		}
	}
	return film, 0, api.OK
}
