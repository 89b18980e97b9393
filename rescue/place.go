package rescue

import (
	"cmp"
	"iter"
	"slices"

	"telecine/api"
)

// slot is a machine on a day, which is counted from the first one of the workshop on.
type slot struct{ day, machine int }

// place is one of the places of a slot: each can be given once.
type place struct {
	slot
	nth int
}

// workshop is a workshop without an error.
type workshop struct{ api.RsTask }

// workshopOf returns a workshop that has to be without an error, or its error.
func workshopOf(t api.RsTask) (workshop, api.Errno) {
	if _, _, e := Check(t); e != api.OK {
		return workshop{}, e
	}
	return workshop{t}, api.OK
}

// uses returns the machines that one of some reels can use on each day of the workshop, as bits.
func (w workshop) uses(reels ...int) (machines [api.MaxRsDays]uint8) {
	for _, i := range reels {
		r := w.Reels[i]
		for day := r.Ready; day <= r.Due; day++ {
			for _, m := range r.Machines {
				machines[day-w.First] |= 1 << m
			}
		}
	}
	return machines
}

// places yields the places that one of some reels can use, day by day, and on each day machine by machine.
func (w workshop) places(reels ...int) iter.Seq[place] {
	return func(yield func(place) bool) {
		for day, machines := range w.uses(reels...) {
			for m, x := range w.Machines {
				if machines>>m&1 == 0 {
					continue
				}
				for nth := range x.Places[day] {
					if !yield(place{slot{day, m}, nth}) {
						return
					}
				}
			}
		}
	}
}

// sorted returns the elements of a list in an order, equal ones in that of the list.
func sorted[T any](list []T, compare func(a, b T) int) []T {
	list = slices.Clone(list)
	slices.SortStableFunc(list, compare)
	return list
}

// byRisk compares two reels: the one with the greater Risk comes first.
func (w workshop) byRisk(a, b int) int { return cmp.Compare(w.Reels[b].Risk, w.Reels[a].Risk) }

// order returns the reels in the order in which they are kept or late.
func (w workshop) order() []int {
	var reels []int
	for i := range w.Reels {
		reels = append(reels, i)
	}
	return sorted(reels, w.byRisk)
}

// give gives a reel a place that is not fixed, for which others may have to go to further places; or it returns those that need all the places that it could have.
func (w workshop) give(given map[place]int, fixed map[place]bool, reel int) (by []int, ok bool) {
	seen := map[place]bool{}
	var find func(reel int) bool
	find = func(reel int) bool {
		for p := range w.places(reel) {
			if fixed[p] || seen[p] {
				continue
			}
			seen[p] = true
			if other, taken := given[p]; !taken || find(other) {
				given[p] = reel
				return true
			}
		}
		return false
	}
	if find(reel) {
		return nil, true
	}
	// Without any one reel that has a place that was seen the others could move on until the late one has one, too; no other reel would be of use to it.
	for p := range seen {
		by = append(by, given[p])
	}
	return sorted(by, cmp.Compare[int]), false
}

// keep returns which reels, one after the other, are kept in places that are not fixed, and which ones are late.
func (w workshop) keep(reels []int, fixed map[place]bool) (kept []int, late []api.RsLate) {
	given := map[place]int{}
	for _, reel := range reels {
		if by, ok := w.give(given, fixed, reel); ok {
			kept = append(kept, reel)
		} else {
			late = append(late, api.RsLate{Reel: reel, By: by})
		}
	}
	return kept, late
}

// fit reports whether some reels fit in places that are not fixed.
func (w workshop) fit(reels []int, fixed map[place]bool) bool {
	_, late := w.keep(reels, fixed)
	return len(late) == 0
}

// turns returns the turns of kept reels, which ascend: each one has the first place with which those behind it still fit.
func (w workshop) turns(kept []int) []api.RsTurn {
	fixed := map[place]bool{}
	var turns []api.RsTurn
	for i, reel := range kept {
		for p := range w.places(reel) {
			if fixed[p] {
				continue
			}
			fixed[p] = true
			if w.fit(kept[i+1:], fixed) {
				turns = append(turns, api.RsTurn{Reel: reel, Machine: p.machine, Day: w.First + p.day})
				break
			}
			delete(fixed, p)
		}
	}
	return turns
}
