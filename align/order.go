package align

import (
	"iter"
	"maps"
	"slices"

	"telecine/api"
)

// steps yields each mark above 0 of each element, and the one directly before it among those above 0 (0: there is none).
func (l elements) steps() iter.Seq2[int, int] {
	return func(yield func(mark, before int) bool) {
		for _, x := range l {
			before := 0
			for _, s := range x.Shots {
				if s.Mark == 0 {
					continue
				}
				if !yield(s.Mark, before) {
					return
				}
				before = s.Mark
			}
		}
	}
}

// before returns, for each mark, those that are directly before it in some element. Through these all others come before it.
func (l elements) before() map[int]map[int]bool {
	all := map[int]map[int]bool{}
	for mark, before := range l.steps() {
		if all[mark] == nil {
			all[mark] = map[int]bool{}
		}
		if before > 0 {
			all[mark][before] = true
		}
	}
	return all
}

// behind returns, for each mark that has some, those that are directly behind it in some element, the least one first.
func (l elements) behind() map[int][]int {
	all := map[int][]int{}
	for mark, before := range l.steps() {
		if before > 0 {
			all[before] = append(all[before], mark)
		}
	}
	for _, marks := range all {
		slices.Sort(marks)
	}
	return all
}

// whole returns the whole, and whether there is one: there is none if the elements contradict each other.
func (l elements) whole() (whole []int, ok bool) {
	before := l.before()
	marks := slices.Sorted(maps.Keys(before))
next:
	for len(before) > 0 {
		for _, m := range marks {
			others, waits := before[m]
			if !waits || len(others) > 0 {
				continue
			}
			whole = append(whole, m)
			delete(before, m)
			for _, others := range before {
				delete(others, m)
			}
			continue next
		}
		// Each mark that is left waits for another one of them, and so at last for itself.
		return nil, false
	}
	return whole, true
}

// only reports whether the whole is the only order. A mark that came before the next one only through others would have these between.
func (l elements) only(whole []int) bool {
	behind := l.behind()
	for i := 1; i < len(whole); i++ {
		if !slices.Contains(behind[whole[i-1]], whole[i]) {
			return false
		}
	}
	return true
}

// round returns the round that is named; an empty list if there is none. Marks ascend, so that each round is found from its least mark on first.
func (l elements) round() (round []int) {
	behind := l.behind()
	for _, m := range slices.Sorted(maps.Keys(behind)) {
		r := roundFrom(m, behind)
		if len(r) > 0 && (len(round) == 0 || len(r) < len(round)) {
			round = r
		}
	}
	return round
}

// roundFrom returns, of the shortest rounds from a mark on, the one that comes first; an empty list if there is none. Of each mark the least ones behind it are reached first, so that of all shortest ways to a mark the one that comes first is taken.
func roundFrom(start int, behind map[int][]int) []int {
	from := map[int]int{start: 0}
	reached := []int{start}
	for len(reached) > 0 {
		m := reached[0]
		reached = reached[1:]
		for _, next := range behind[m] {
			if next == start {
				return way(m, from)
			}
			if _, known := from[next]; !known {
				from[next] = m
				reached = append(reached, next)
			}
		}
	}
	return nil
}

// way returns the marks through which one is reached, and this one; each was reached from another one, the first one from 0.
func way(mark int, from map[int]int) (marks []int) {
	for ; mark > 0; mark = from[mark] {
		marks = append(marks, mark)
	}
	slices.Reverse(marks)
	return marks
}

// Whole returns all marks in order, and whether it is the only order.
func Whole(l []api.AlElement) (marks []int, only bool, e api.Errno) {
	x, e := elementsOf(l)
	if e != api.OK {
		return nil, false, e
	}
	marks, ok := x.whole()
	if !ok {
		return nil, false, api.AlErrRound
	}
	return marks, x.only(marks), api.OK
}

// Round returns marks that come before themselves.
func Round(l []api.AlElement) ([]int, api.Errno) {
	x, e := elementsOf(l)
	if e != api.OK {
		return nil, e
	}
	return x.round(), api.OK
}
