package align

import (
	"cmp"
	"iter"
	"slices"

	"telecine/api"
)

// scriptError returns the error of a script.
func scriptError(script []int) api.Errno {
	if len(script) > api.MaxAlScript {
		return api.ErrLong
	}
	if slices.ContainsFunc(script, func(m int) bool { return !within(m, 1, api.MaxAlMark) }) {
		return api.ErrRange
	}
	for i, m := range script {
		if slices.Contains(script[:i], m) {
			return api.ErrTwice
		}
	}
	return api.OK
}

// scripted returns elements and a script that have to be without an error, or their error.
func scripted(l []api.AlElement, script []int) (elements, api.Errno) {
	x, e := elementsOf(l)
	if e != api.OK {
		return nil, e
	}
	return x, scriptError(script)
}

// shots yields the shots with a mark.
func (l elements) shots(mark int) iter.Seq[api.AlPick] {
	return func(yield func(api.AlPick) bool) {
		for i, x := range l {
			for j, s := range x.Shots {
				if s.Mark == mark && !yield(api.AlPick{Mark: mark, Element: i, Shot: j}) {
					return
				}
			}
		}
	}
}

// frames returns how many frames a shot has.
func (l elements) frames(p api.AlPick) int { return l[p.Element].Shots[p.Shot].Frames }

// compare compares two shots with the same mark: the better source comes first.
func (l elements) compare(a, b api.AlPick) int {
	return cmp.Or(
		cmp.Compare(l.frames(b), l.frames(a)),
		cmp.Compare(l[a.Element].Grade, l[b.Element].Grade),
	)
}

// first returns the first one of all to which none comes before by an order, and whether there is any at all.
func first[T any](all iter.Seq[T], compare func(a, b T) int) (found T, ok bool) {
	for x := range all {
		if !ok || compare(x, found) < 0 {
			found, ok = x, true
		}
	}
	return found, ok
}

// source returns the source of a mark, and whether there is one: there is none if the mark is lost.
func (l elements) source(mark int) (api.AlPick, bool) { return first(l.shots(mark), l.compare) }

// Lost returns the marks of a script that are lost, and where they lie.
func Lost(l []api.AlElement, script []int) ([]api.AlGap, api.Errno) {
	x, e := scripted(l, script)
	if e != api.OK {
		return nil, e
	}
	var gaps []api.AlGap
	after, closed := 0, 0
	for _, m := range script {
		if _, ok := x.source(m); !ok {
			gaps = append(gaps, api.AlGap{Mark: m, After: after})
			continue
		}
		for ; closed < len(gaps); closed++ {
			gaps[closed].Before = m
		}
		after = m
	}
	return gaps, api.OK
}

// Version returns the version by a script, and its length.
func Version(l []api.AlElement, script []int) (picks []api.AlPick, frames int, e api.Errno) {
	x, e := scripted(l, script)
	if e != api.OK {
		return nil, 0, e
	}
	if _, ok := x.whole(); !ok {
		return nil, 0, api.AlErrRound
	}
	for _, m := range script {
		if p, ok := x.source(m); ok {
			picks = append(picks, p)
			frames += x.frames(p)
		}
	}
	return picks, frames, api.OK
}
