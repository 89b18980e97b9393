package vault

import (
	"iter"
	"slices"

	"telecine/api"
)

// place is the room in which a can is in an hour, and its temperature at the beginning of it.
type place struct {
	room int
	temp api.Span
}

// Warm returns the temperature of a can after some hours in a room.
func Warm(s api.VtSite, temp api.Span, room, hours int) (api.Span, api.Errno) {
	x, e := siteOf(s)
	if e != api.OK {
		return api.Span{}, e
	}
	if e := x.heatError(temp, room); e != api.OK {
		return api.Span{}, e
	}
	if !within(hours, 0, api.MaxVtHours) {
		return api.Span{}, api.ErrRange
	}
	return placeAt(x.hours(place{room, temp}, nil), hours).temp, api.OK
}

// Wait returns for how many hours a can has to stay in a room, until it does not sweat in another one, and its temperature then.
func Wait(s api.VtSite, temp api.Span, room, next int) (hours int, after api.Span, e api.Errno) {
	x, e := siteOf(s)
	if e != api.OK {
		return 0, api.Span{}, e
	}
	if e := x.heatError(temp, room, next); e != api.OK {
		return 0, api.Span{}, e
	}
	hours, after, ok := x.wait(place{room, temp}, next)
	if !ok {
		return 0, api.Span{}, api.ErrDown
	}
	return hours, after, api.OK
}

// Path returns the fastest way for a can into a room through other rooms, in which it does not sweat.
func Path(s api.VtSite, base int, temp api.Span, from, to int) (stays []api.VtStay, hours int, e api.Errno) {
	x, e := siteOf(s)
	if e != api.OK {
		return nil, 0, e
	}
	if !isBase(base) {
		return nil, 0, api.ErrArg
	}
	if e := x.heatError(temp, from, to); e != api.OK {
		return nil, 0, e
	}
	stays, hours = x.best(base, place{from, temp}, to)
	if len(stays) == 0 {
		return nil, 0, api.ErrDown
	}
	return stays, hours, api.OK
}

// part returns a difference of temperatures, times a rate in per cent, rounded down.
func part(difference, rate int) int {
	n := difference * rate
	if n < 0 {
		return -((maxRate - 1 - n) / maxRate)
	}
	return n / maxRate
}

// warmer returns the temperature of a can after an hour in a room.
func (s site) warmer(temp api.Span, room int) api.Span {
	air := s.Rooms[room].Temp
	// Each end of the span moves as far away from the other one, or as little towards it, as it can.
	down, up := s.Rate.Lo, s.Rate.Lo
	if air.Lo < temp.Lo {
		down = s.Rate.Hi
	}
	if air.Hi > temp.Hi {
		up = s.Rate.Hi
	}
	return api.Span{Lo: temp.Lo + part(air.Lo-temp.Lo, down), Hi: temp.Hi - part(temp.Hi-air.Hi, up)}
}

// hours yields each hour from 0 to MaxVtHours, and where a can is in it that is in a place at first, and is moved by moves.
func (s site) hours(at place, moves []api.VtMove) iter.Seq2[int, place] {
	return func(yield func(hour int, at place) bool) {
		at, moves := at, moves
		for hour := range api.MaxVtHours + 1 {
			for ; len(moves) > 0 && moves[0].Hour == hour; moves = moves[1:] {
				at.room = moves[0].To
			}
			if !yield(hour, at) {
				return
			}
			at.temp = s.warmer(at.temp, at.room)
		}
	}
}

// placeAt returns where a can is at an hour, which is one of its hours.
func placeAt(hours iter.Seq2[int, place], hour int) place {
	for h, at := range hours {
		if h == hour {
			return at
		}
	}
	return place{}
}

// wait returns for how many hours a can waits for a room, its temperature then, and whether these are not too many hours.
func (s site) wait(at place, next int) (hours int, after api.Span, ok bool) {
	for hour, at := range s.hours(at, nil) {
		if hour > api.MaxVtWait {
			break
		}
		if !s.may(at.temp, next) {
			return hour, at.temp, true
		}
	}
	return 0, api.Span{}, false
}

// best returns the rooms of the best way of a can of a base to a room, and its hours (no rooms: there is no way).
func (s site) best(base int, at place, to int) (stays []api.VtStay, least int) {
	var way []api.VtStay // the rooms before the one in which the can is
	visited := func(room int) bool {
		return slices.ContainsFunc(way, func(x api.VtStay) bool { return x.Room == room })
	}
	var search func(at place, hours int)
	search = func(at place, hours int) {
		if at.room == to {
			// Ways are found in the order of their rooms: of equal ones the first one stays.
			if stays == nil || hours < least || hours == least && len(way)+1 < len(stays) {
				stays, least = append(slices.Clone(way), api.VtStay{Room: to}), hours
			}
			return
		}
		for next := range s.Rooms {
			if next == at.room || visited(next) || !s.allows(base, next) || len(way) == api.MaxVtPath && next != to {
				continue
			}
			wait, after, ok := s.wait(at, next)
			if !ok {
				continue
			}
			way = append(way, api.VtStay{Room: at.room, Hours: wait})
			search(place{next, after}, hours+wait)
			way = way[:len(way)-1]
		}
	}
	search(at, 0)
	return stays, least
}
