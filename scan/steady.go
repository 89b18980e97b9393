package scan

import (
	"cmp"
	"slices"

	"telecine/api"
)

// size returns a number without its sign.
func size(n int) int { return max(n, -n) }

// best returns the best one of some shifts, of which there is at least one.
func best(shifts ...api.SnShift) api.SnShift {
	return slices.MinFunc(shifts, func(s, t api.SnShift) int {
		return cmp.Or(
			cmp.Compare(s.Sum, t.Sum),
			cmp.Compare(size(s.X)+size(s.Y), size(t.X)+size(t.Y)),
			cmp.Compare(s.Y, t.Y),
			cmp.Compare(s.X, t.X),
		)
	})
}

// shifts returns the shifts with a reach that keep a window of a first frame within the other frame.
func shifts(first, other plane, window api.SnArea, reach int) (list []api.SnShift) {
search:
	for x, y := range places(around(0, 0, reach)) {
		s := api.SnShift{X: x, Y: y}
		for a, b := range places(window) {
			there, ok := other.at(a+x, b+y)
			if !ok {
				continue search
			}
			here, _ := first.at(a, b)
			s.Sum += size(int(here) - int(there))
		}
		list = append(list, s)
	}
	return list
}

// Steady returns by how much the content of a frame is moved, as a window of a first frame tells.
func Steady(first, f api.SnFrame, window api.SnArea, reach int) (api.SnShift, api.Errno) {
	if e := Check(first); e != api.OK {
		return api.SnShift{}, e
	}
	if e := Check(f); e != api.OK {
		return api.SnShift{}, e
	}
	a, b := plane{first}, plane{f}
	switch {
	case !sameSize(first, f) || !a.has(window):
		return api.SnShift{}, api.ErrArg
	case !within(reach, 0, api.MaxSnReach):
		return api.SnShift{}, api.ErrRange
	}
	return best(shifts(a, b, window, reach)...), api.OK
}
