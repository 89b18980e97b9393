package vault

import (
	"slices"

	"telecine/api"
)

// Play returns the moves that are kept, and for each of all moves why it is refused.
func Play(s api.VtSite, moves []api.VtMove) (kept []api.VtMove, why []api.Errno, e api.Errno) {
	x, why, e := played(s, moves)
	return x.kept, why, e
}

// Where returns in which room each can is at an hour.
func Where(s api.VtSite, moves []api.VtMove, hour int) ([]int, api.Errno) {
	x, _, e := played(s, moves)
	if e != api.OK {
		return nil, e
	}
	if !within(hour, 0, api.MaxVtHours) {
		return nil, api.ErrRange
	}
	where := x.begin()
	for _, m := range x.kept {
		if m.Hour <= hour {
			where[m.Can] = m.To
		}
	}
	return where, api.OK
}

// Temp returns the temperature of a can at an hour.
func Temp(s api.VtSite, moves []api.VtMove, can, hour int) (api.Span, api.Errno) {
	x, _, e := played(s, moves)
	if e != api.OK {
		return api.Span{}, e
	}
	if !x.isCan(can) {
		return api.Span{}, api.ErrNone
	}
	if !within(hour, 0, api.MaxVtHours) {
		return api.Span{}, api.ErrRange
	}
	return x.temp(can, hour), api.OK
}

// Climates returns the climate of a can, day by day.
func Climates(s api.VtSite, moves []api.VtMove, can, days int) ([]api.DcDay, api.Errno) {
	x, _, e := played(s, moves)
	if e != api.OK {
		return nil, e
	}
	if !x.isCan(can) {
		return nil, api.ErrNone
	}
	if !within(days, 0, api.MaxVtHours/api.VtDay) {
		return nil, api.ErrRange
	}
	return x.climates(can, days), api.OK
}

// state is a site behind some moves: those that are kept, and in which room each can is then.
type state struct {
	site
	kept  []api.VtMove
	where []int
}

// played returns the state of a site behind moves, and for each of them why it is refused; or the error of both.
func played(s api.VtSite, moves []api.VtMove) (x state, why []api.Errno, e api.Errno) {
	y, e := siteOf(s)
	if e != api.OK {
		return state{}, nil, e
	}
	if e := y.movesError(moves); e != api.OK {
		return state{}, nil, e
	}
	x = state{site: y, where: y.begin()}
	for _, m := range moves {
		why = append(why, x.move(m))
	}
	return x, why, api.OK
}

// movesError returns the error of moves.
func (s site) movesError(moves []api.VtMove) api.Errno {
	if len(moves) > api.MaxVtMoves {
		return api.ErrLong
	}
	_, e := firstError(len(moves), func(i int) api.Errno {
		m := moves[i]
		switch {
		case !within(m.Hour, 0, api.MaxVtHours):
			return api.ErrRange
		case !s.isCan(m.Can) || !s.isRoom(m.To):
			return api.ErrNone
		}
		return api.OK
	})
	return e
}

// move keeps a move, or returns the reason for which it is refused.
func (x *state) move(m api.VtMove) (why api.Errno) {
	defer func() {
		if reason, ok := recover().(api.Errno); ok {
			why = reason
		}
	}()
	x.where = x.allowed(m)
	x.kept = append(x.kept, m)
	return api.OK
}

// refuse panics with a reason for which a move is refused, if it applies.
func refuse(applies bool, reason api.Errno) {
	if applies {
		panic(reason)
	}
}

// allowed returns in which room each can is behind a move, and panics with the first reason for which it is refused.
func (x *state) allowed(m api.VtMove) []int {
	refuse(len(x.kept) > 0 && m.Hour < x.kept[len(x.kept)-1].Hour, api.VtErrHour)
	refuse(x.where[m.Can] == m.To, api.VtErrSame)
	refuse(!x.allows(x.Cans[m.Can].Base, m.To), api.VtErrNitrate)
	after := slices.Clone(x.where)
	after[m.Can] = m.To
	refuse(x.full(after, m.To), api.VtErrFull)
	refuse(len(x.near(after)) > 0, api.VtErrNear)
	refuse(x.may(x.temp(m.Can, m.Hour), m.To), api.VtErrSweat)
	return after
}

// begun returns the place of a can before all moves, and the moves of it that are kept.
func (x *state) begun(can int) (place, []api.VtMove) {
	var own []api.VtMove
	for _, m := range x.kept {
		if m.Can == can {
			own = append(own, m)
		}
	}
	room := x.Cans[can].Room
	return place{room, x.Rooms[room].Temp}, own
}

// temp returns the temperature of a can at the beginning of an hour.
func (x *state) temp(can, hour int) api.Span { return placeAt(x.hours(x.begun(can)), hour).temp }

// climates returns the climates of a can on so many days.
func (x *state) climates(can, days int) []api.DcDay {
	var list []api.DcDay
	for hour, at := range x.hours(x.begun(can)) {
		day, damp := hour/api.VtDay, x.Rooms[at.room].Damp
		if hour%api.VtDay == 0 {
			// At the beginning of a day the one before it ends: it has this temperature, but not this room.
			if day > 0 {
				list[day-1].Temp = joined(list[day-1].Temp, at.temp)
			}
			if day == days {
				break
			}
			list = append(list, api.DcDay{Temp: at.temp, Damp: damp})
		}
		list[day] = api.DcDay{Temp: joined(list[day].Temp, at.temp), Damp: joined(list[day].Damp, damp)}
	}
	return list
}

// joined returns the span from the least to the greatest number of two spans.
func joined(a, b api.Span) api.Span { return api.Span{Lo: min(a.Lo, b.Lo), Hi: max(a.Hi, b.Hi)} }
