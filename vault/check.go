package vault

import (
	"slices"

	"telecine/api"
	"telecine/film"
)

// maxRate is the greatest number of Rate: all of a difference in an hour, in per cent.
const maxRate = 100

// within reports whether a number is from lo to hi.
func within(n, lo, hi int) bool { return lo <= n && n <= hi }

// spanError returns the error of a span whose numbers have to be from least to most.
func spanError(s api.Span, least, most int) api.Errno {
	switch {
	case !within(s.Lo, least, most) || !within(s.Hi, least, most):
		return api.ErrRange
	case s.Lo > s.Hi:
		return api.ErrArg
	}
	return api.OK
}

// tempError returns the error of a temperature that is a span.
func tempError(temp api.Span) api.Errno { return spanError(temp, api.MinTemp, api.MaxTemp) }

// firstError returns the first of some elements with an error, and its error.
func firstError(count int, check func(i int) api.Errno) (at int, e api.Errno) {
	for i := range count {
		if e := check(i); e != api.OK {
			return i, e
		}
	}
	return 0, api.OK
}

// nameError returns the error of the name of an element of a list: it is none, or that of one before it.
func nameError[T any](list []T, i int, name func(T) string) api.Errno {
	own := name(list[i])
	switch {
	case !film.Name(own):
		return api.ErrForm
	case slices.ContainsFunc(list[:i], func(x T) bool { return name(x) == own }):
		return api.ErrTwice
	}
	return api.OK
}

// Check returns the part, the index in it and the error of a site.
func Check(s api.VtSite) (part, at int, e api.Errno) {
	if !within(len(s.Rooms), 1, api.MaxVtRooms) || len(s.Cans) > api.MaxVtCans || len(s.Steps) > api.MaxVtSteps {
		return 1, 0, api.ErrLong
	}
	x := site{s}
	if at, e := firstError(len(s.Rooms), x.roomError); e != api.OK {
		return 2, at, e
	}
	if at, e := firstError(len(s.Cans), x.canError); e != api.OK {
		return 3, at, e
	}
	if e := spanError(s.Rate, 1, maxRate); e != api.OK {
		return 4, 0, e
	}
	if at, e := firstError(len(s.Steps), x.stepError); e != api.OK {
		return 5, at, e
	}
	if at, e := firstError(len(s.Cans), x.nitrateError); e != api.OK {
		return 6, at, e
	}
	if len(x.near(x.begin())) > 0 {
		return 7, 0, api.ErrDown
	}
	return 0, 0, api.OK
}

// roomError returns the error of a room.
func (s site) roomError(i int) api.Errno {
	if e := nameError(s.Rooms, i, func(r api.VtRoom) string { return r.Name }); e != api.OK {
		return e
	}
	r := s.Rooms[i]
	temp, damp := tempError(r.Temp), spanError(r.Damp, 0, api.All)
	switch {
	case temp == api.ErrRange || damp == api.ErrRange || !within(r.Most, 0, api.MaxVtAmount):
		return api.ErrRange
	case !within(r.X, 0, api.MaxVtMetres) || !within(r.Y, 0, api.MaxVtMetres):
		return api.ErrRange
	case temp != api.OK:
		return temp
	}
	return damp
}

// canError returns the error of a can.
func (s site) canError(i int) api.Errno {
	if e := nameError(s.Cans, i, func(c api.VtCan) string { return c.Name }); e != api.OK {
		return e
	}
	c := s.Cans[i]
	switch {
	case !isBase(c.Base):
		return api.ErrArg
	case !within(c.Frames, 1, api.MaxFrames):
		return api.ErrRange
	case !s.isRoom(c.Room):
		return api.ErrNone
	}
	return api.OK
}

// stepError returns the error of a step.
func (s site) stepError(i int) api.Errno {
	x := s.Steps[i]
	switch {
	case !within(x.Over, 0, api.MaxVtAmount) || !within(x.Metres, 0, api.MaxVtMetres):
		return api.ErrRange
	case i > 0 && (x.Over <= s.Steps[i-1].Over || x.Metres < s.Steps[i-1].Metres):
		return api.ErrArg
	}
	return api.OK
}

// nitrateError returns the error of a can that cannot be in its room at first, with the cans before it.
func (s site) nitrateError(i int) api.Errno {
	c := s.Cans[i]
	if !s.allows(c.Base, c.Room) || s.full(s.begin()[:i+1], c.Room) {
		return api.ErrDown
	}
	return api.OK
}

// isBase reports whether a number is a base.
func isBase(base int) bool { return within(base, api.FmNitrate, api.FmPolyester) }

// isRoom reports whether a number is the index of a room.
func (s site) isRoom(i int) bool { return within(i, 0, len(s.Rooms)-1) }

// areRooms reports whether all numbers are indices of rooms.
func (s site) areRooms(list []int) bool {
	return !slices.ContainsFunc(list, func(i int) bool { return !s.isRoom(i) })
}

// isCan reports whether a number is the index of a can.
func (s site) isCan(i int) bool { return within(i, 0, len(s.Cans)-1) }

// siteOf returns a site that has to be without an error, or its error.
func siteOf(s api.VtSite) (site, api.Errno) {
	if _, _, e := Check(s); e != api.OK {
		return site{}, e
	}
	return site{s}, api.OK
}

// heatError returns the error of the temperature of a can, and of the rooms that it is to be in.
func (s site) heatError(temp api.Span, rooms ...int) api.Errno {
	if e := tempError(temp); e != api.OK {
		return e
	}
	if !s.areRooms(rooms) {
		return api.ErrNone
	}
	return api.OK
}
