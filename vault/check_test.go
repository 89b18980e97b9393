package vault

import (
	"strconv"
	"testing"

	"telecine/api"
)

// checked is a change of the example's site, and what Check returns then.
type checked struct {
	change   func(s *api.VtSite)
	part, at int
	e        api.Errno
}

// expect runs Check, and all that return its error first, on the example's site with each change.
func expect(t *testing.T, list []checked) {
	t.Helper()
	for i, c := range list {
		s := example()
		c.change(&s)
		if part, at, e := Check(s); part != c.part || at != c.at || e != c.e {
			t.Errorf("%d: Check = %d, %d, %d; want %d, %d, %d", i, part, at, e, c.part, c.at, c.e)
		}
		if c.e == api.OK {
			continue
		}
		for j, e := range every(s, -1) {
			if e != c.e {
				t.Errorf("%d: function %d: %d; want %d", i, j, e, c.e)
			}
		}
	}
}

// filled returns the example's site with so many rooms, cans and steps in all.
func filled(s *api.VtSite, rooms, cans, steps int) {
	for i := len(s.Rooms); i < rooms; i++ {
		s.Rooms = append(s.Rooms, api.VtRoom{Name: "room-" + strconv.Itoa(i)})
	}
	for i := len(s.Cans); i < cans; i++ {
		s.Cans = append(s.Cans, api.VtCan{Name: "can-" + strconv.Itoa(i), Base: api.FmAcetate, Frames: 1})
	}
	for i := len(s.Steps); i < steps; i++ {
		s.Steps = append(s.Steps, api.VtStep{Over: 10000 + i, Metres: 45})
	}
}

// P3.1: how many rooms, cans and steps there may be.
func TestCheckCounts(t *testing.T) {
	expect(t, []checked{
		{func(s *api.VtSite) {}, 0, 0, api.OK},
		{func(s *api.VtSite) { *s = api.VtSite{} }, 1, 0, api.ErrLong},
		{func(s *api.VtSite) { s.Rooms = nil }, 1, 0, api.ErrLong},
		{func(s *api.VtSite) { s.Rooms = []api.VtRoom{} }, 1, 0, api.ErrLong},
		{func(s *api.VtSite) { s.Rooms, s.Cans = s.Rooms[:1], nil }, 0, 0, api.OK},
		{func(s *api.VtSite) { s.Cans = nil }, 0, 0, api.OK},
		{func(s *api.VtSite) { s.Steps = nil }, 0, 0, api.OK},
		{func(s *api.VtSite) { filled(s, 12, 30, 8) }, 0, 0, api.OK},
		{func(s *api.VtSite) { filled(s, 13, 0, 0) }, 1, 0, api.ErrLong},
		{func(s *api.VtSite) { filled(s, 0, 31, 0) }, 1, 0, api.ErrLong},
		{func(s *api.VtSite) { filled(s, 0, 0, 9) }, 1, 0, api.ErrLong},
		{func(s *api.VtSite) { s.Cans, s.Rooms[0].Name = make([]api.VtCan, 31), "" }, 1, 0, api.ErrLong},
	})
}

// P3.1: rooms, at their limits and beyond; the first one with an error decides.
func TestCheckRooms(t *testing.T) {
	room := func(change func(r *api.VtRoom), e api.Errno) checked {
		part, at := 2, 1
		if e == api.OK {
			part, at = 0, 0
		}
		return checked{func(s *api.VtSite) { change(&s.Rooms[1]) }, part, at, e}
	}
	expect(t, []checked{
		room(func(r *api.VtRoom) { r.Name = "Lobby" }, api.ErrForm),
		room(func(r *api.VtRoom) { r.Name = "" }, api.ErrForm),
		room(func(r *api.VtRoom) { r.Name, r.Most = "", -1 }, api.ErrForm),
		room(func(r *api.VtRoom) { r.Name = "cold" }, api.ErrTwice),
		room(func(r *api.VtRoom) { r.Name, r.X = "cold", -1 }, api.ErrTwice),
		room(func(r *api.VtRoom) { r.Name = "golem" }, api.OK),
		room(func(r *api.VtRoom) { r.Temp = span(-300, 600) }, api.OK),
		room(func(r *api.VtRoom) { r.Temp = span(-301, 600) }, api.ErrRange),
		room(func(r *api.VtRoom) { r.Temp = span(-300, 601) }, api.ErrRange),
		room(func(r *api.VtRoom) { r.Temp = span(601, 600) }, api.ErrRange),
		room(func(r *api.VtRoom) { r.Temp = span(5, -301) }, api.ErrRange),
		room(func(r *api.VtRoom) { r.Temp = span(5, 5) }, api.OK),
		room(func(r *api.VtRoom) { r.Temp = span(5, 4) }, api.ErrArg),
		room(func(r *api.VtRoom) { r.Damp = span(0, 1000) }, api.OK),
		room(func(r *api.VtRoom) { r.Damp = span(-1, 1000) }, api.ErrRange),
		room(func(r *api.VtRoom) { r.Damp = span(0, 1001) }, api.ErrRange),
		room(func(r *api.VtRoom) { r.Damp = span(1001, 0) }, api.ErrRange),
		room(func(r *api.VtRoom) { r.Damp = span(5, -1) }, api.ErrRange),
		room(func(r *api.VtRoom) { r.Damp = span(5, 4) }, api.ErrArg),
		room(func(r *api.VtRoom) { r.Most = 0 }, api.OK),
		room(func(r *api.VtRoom) { r.Most = -1 }, api.ErrRange),
		room(func(r *api.VtRoom) { r.Most = 10000000 }, api.OK),
		room(func(r *api.VtRoom) { r.Most = 10000001 }, api.ErrRange),
		room(func(r *api.VtRoom) { r.X = 10000 }, api.OK),
		room(func(r *api.VtRoom) { r.X = 10001 }, api.ErrRange),
		room(func(r *api.VtRoom) { r.X = -1 }, api.ErrRange),
		room(func(r *api.VtRoom) { r.Y = 10000 }, api.OK),
		room(func(r *api.VtRoom) { r.Y = 10001 }, api.ErrRange),
		room(func(r *api.VtRoom) { r.Y = -1 }, api.ErrRange),
		// A number that is not as stated comes before a Lo above its Hi.
		room(func(r *api.VtRoom) { r.Temp, r.Damp = span(5, 4), span(0, 1001) }, api.ErrRange),
		room(func(r *api.VtRoom) { r.Temp, r.Y = span(5, 4), -1 }, api.ErrRange),
		room(func(r *api.VtRoom) { r.Damp, r.Most = span(5, 4), -1 }, api.ErrRange),
		{func(s *api.VtSite) { s.Rooms[1].Damp, s.Rooms[2].Name = span(5, 4), "" }, 2, 1, api.ErrArg},
		{func(s *api.VtSite) { s.Rooms[2].Name, s.Cans[0].Name = "cold", "" }, 2, 2, api.ErrTwice},
		{func(s *api.VtSite) { s.Rooms[0].X = 10001 }, 2, 0, api.ErrRange},
	})
}

// P3.1: cans, at their limits and beyond; the first one with an error decides.
func TestCheckCans(t *testing.T) {
	expect(t, []checked{
		{func(s *api.VtSite) { s.Cans[1].Name = "" }, 3, 1, api.ErrForm},
		{func(s *api.VtSite) { s.Cans[1].Name = "a b" }, 3, 1, api.ErrForm},
		{func(s *api.VtSite) { s.Cans[1].Name = "nana-2" }, 3, 1, api.ErrTwice},
		{func(s *api.VtSite) { s.Cans[1].Name, s.Cans[1].Base = "", 0 }, 3, 1, api.ErrForm},
		{func(s *api.VtSite) { s.Cans[1].Name, s.Cans[1].Base = "nana-2", 0 }, 3, 1, api.ErrTwice},
		{func(s *api.VtSite) { s.Cans[1].Name = "cold" }, 0, 0, api.OK},
		{func(s *api.VtSite) { s.Cans[1].Base = 0 }, 3, 1, api.ErrArg},
		{func(s *api.VtSite) { s.Cans[1].Base = 4 }, 3, 1, api.ErrArg},
		{func(s *api.VtSite) { s.Cans[1].Base = api.FmPolyester }, 0, 0, api.OK},
		{func(s *api.VtSite) { s.Cans[1].Base, s.Cans[1].Frames = 4, 0 }, 3, 1, api.ErrArg},
		{func(s *api.VtSite) { s.Cans[1].Frames = 0 }, 3, 1, api.ErrRange},
		{func(s *api.VtSite) { s.Cans[1].Frames = 1 }, 0, 0, api.OK},
		{func(s *api.VtSite) { s.Cans[1].Base, s.Cans[1].Frames = api.FmAcetate, 200000 }, 0, 0, api.OK},
		{func(s *api.VtSite) { s.Cans[1].Base, s.Cans[1].Frames = api.FmAcetate, 200001 }, 3, 1, api.ErrRange},
		{func(s *api.VtSite) { s.Cans[1].Frames, s.Cans[1].Room = 0, 3 }, 3, 1, api.ErrRange},
		{func(s *api.VtSite) { s.Cans[1].Room = 3 }, 3, 1, api.ErrNone},
		{func(s *api.VtSite) { s.Cans[1].Room = -1 }, 3, 1, api.ErrNone},
		{func(s *api.VtSite) { s.Cans[0].Room, s.Cans[1].Name = 3, "" }, 3, 0, api.ErrNone},
		{func(s *api.VtSite) { s.Cans[1].Room, s.Rate.Lo = 3, 0 }, 3, 1, api.ErrNone},
	})
}

// P3.1: the rate and the steps, at their limits and beyond.
func TestCheckRateAndSteps(t *testing.T) {
	expect(t, []checked{
		{func(s *api.VtSite) { s.Rate = span(1, 100) }, 0, 0, api.OK},
		{func(s *api.VtSite) { s.Rate = span(100, 100) }, 0, 0, api.OK},
		{func(s *api.VtSite) { s.Rate = span(0, 100) }, 4, 0, api.ErrRange},
		{func(s *api.VtSite) { s.Rate = span(1, 101) }, 4, 0, api.ErrRange},
		{func(s *api.VtSite) { s.Rate = span(101, 100) }, 4, 0, api.ErrRange},
		{func(s *api.VtSite) { s.Rate = span(5, 0) }, 4, 0, api.ErrRange},
		{func(s *api.VtSite) { s.Rate = span(6, 5) }, 4, 0, api.ErrArg},
		{func(s *api.VtSite) { s.Rate, s.Steps[0].Over = span(6, 5), -1 }, 4, 0, api.ErrArg},
		{func(s *api.VtSite) { s.Steps[0].Over = -1 }, 5, 0, api.ErrRange},
		{func(s *api.VtSite) { s.Steps[1].Over = 10000000 }, 0, 0, api.OK},
		{func(s *api.VtSite) { s.Steps[1].Over = 10000001 }, 5, 1, api.ErrRange},
		{func(s *api.VtSite) { s.Steps[0].Metres = -1 }, 5, 0, api.ErrRange},
		{func(s *api.VtSite) { s.Steps[0].Metres = 0 }, 0, 0, api.OK},
		{func(s *api.VtSite) { s.Steps[1].Over, s.Steps[1].Metres = 5000, 10000 }, 0, 0, api.OK},
		{func(s *api.VtSite) { s.Steps[1].Metres = 10001 }, 5, 1, api.ErrRange},
		{func(s *api.VtSite) { s.Steps[1].Over = 1 }, 0, 0, api.OK},
		{func(s *api.VtSite) { s.Steps[1].Over = 0 }, 5, 1, api.ErrArg},
		{func(s *api.VtSite) { s.Steps[0].Over = 1500 }, 5, 1, api.ErrArg},
		{func(s *api.VtSite) { s.Steps[1].Metres = 10 }, 0, 0, api.OK},
		{func(s *api.VtSite) { s.Steps[1].Metres = 9 }, 5, 1, api.ErrArg},
		{func(s *api.VtSite) { s.Steps[1] = api.VtStep{Over: 0, Metres: 10001} }, 5, 1, api.ErrRange},
		{func(s *api.VtSite) { s.Steps[1].Over, s.Rooms[0].Allows = 0, false }, 5, 1, api.ErrArg},
	})
}

// P3.1: nitrate that cannot be where it is at first.
func TestCheckNitrate(t *testing.T) {
	expect(t, []checked{
		{func(s *api.VtSite) { s.Rooms[0].Allows = false }, 6, 0, api.ErrDown},
		{func(s *api.VtSite) { s.Rooms[0].Allows, s.Cans[0].Base = false, api.FmAcetate }, 6, 1, api.ErrDown},
		{func(s *api.VtSite) { s.Rooms[0].Allows, s.Cans = false, nil }, 0, 0, api.OK},
		{func(s *api.VtSite) {
			s.Rooms[0].Allows, s.Rooms[0].Most, s.Cans[0].Base, s.Cans[1].Base = false, 0, api.FmAcetate, api.FmPolyester
		}, 0, 0, api.OK},
		{func(s *api.VtSite) { s.Rooms[0].Most = 2300 }, 0, 0, api.OK},
		{func(s *api.VtSite) { s.Rooms[0].Most = 2299 }, 6, 1, api.ErrDown},
		{func(s *api.VtSite) { s.Rooms[0].Most = 900 }, 6, 1, api.ErrDown},
		{func(s *api.VtSite) { s.Rooms[0].Most = 899 }, 6, 0, api.ErrDown},
		{func(s *api.VtSite) { s.Rooms[0].Most, s.Cans[1].Base = 900, api.FmAcetate }, 0, 0, api.OK},
		{func(s *api.VtSite) { s.Rooms[0].Most, s.Cans[0].Base = 1400, api.FmAcetate }, 0, 0, api.OK},
		{func(s *api.VtSite) { s.Rooms[0].Most, s.Cans[1].Room = 900, 1 }, 0, 0, api.OK},
		// The first can decides, whichever of both reasons it has.
		{func(s *api.VtSite) { s.Rooms[0].Most, s.Rooms[1].Allows, s.Cans[1].Room = 899, false, 1 }, 6, 0, api.ErrDown},
		{func(s *api.VtSite) { s.Rooms[0].Most, s.Steps[1].Metres = 2299, 51 }, 6, 1, api.ErrDown},
		// Rooms 0 and 2 are 50 metres apart.
		{func(s *api.VtSite) { s.Steps[1].Metres = 50 }, 0, 0, api.OK},
		{func(s *api.VtSite) { s.Steps[1].Metres = 51 }, 7, 0, api.ErrDown},
		{func(s *api.VtSite) { s.Steps[1].Metres, s.Rooms[2].People = 51, false }, 0, 0, api.OK},
		{func(s *api.VtSite) { s.Steps[1].Metres, s.Steps[1].Over = 51, 2300 }, 0, 0, api.OK},
		{func(s *api.VtSite) { s.Steps[0].Metres, s.Steps[1].Metres, s.Cans = 10000, 10000, nil }, 0, 0, api.OK},
	})
}
