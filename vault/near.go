package vault

import "telecine/api"

// Near returns the rooms that are too near to each other, if cans are in some rooms.
func Near(s api.VtSite, where []int) ([]api.VtNear, api.Errno) {
	x, e := siteOf(s)
	if e != api.OK {
		return nil, e
	}
	if len(where) != len(s.Cans) {
		return nil, api.ErrArg
	}
	if !x.areRooms(where) {
		return nil, api.ErrNone
	}
	return x.near(where), api.OK
}

// begin returns the room of each can before all moves.
func (s site) begin() []int {
	var where []int
	for _, c := range s.Cans {
		where = append(where, c.Room)
	}
	return where
}

// nitrate returns how much nitrate there is in each room, of those cans whose rooms are given.
func (s site) nitrate(where []int) []int {
	amounts := make([]int, len(s.Rooms))
	for can, room := range where {
		if c := s.Cans[can]; c.Base == api.FmNitrate {
			amounts[room] += c.Frames
		}
	}
	return amounts
}

// full reports whether there is more nitrate in a room than may be, of those cans whose rooms are given.
func (s site) full(where []int, room int) bool { return s.nitrate(where)[room] > s.Rooms[room].Most }

// metres returns the distance that a room with an amount of nitrate has to keep.
func (s site) metres(amount int) int {
	metres := 0
	for _, step := range s.Steps {
		if step.Over < amount {
			metres = step.Metres
		}
	}
	return metres
}

// near returns the rooms that are too near to each other, if each can is in a room.
func (s site) near(where []int) []api.VtNear {
	amounts := s.nitrate(where)
	var list []api.VtNear
	for a := range s.Rooms {
		for b := a + 1; b < len(s.Rooms); b++ {
			if s.tooNear(amounts, a, b) {
				list = append(list, api.VtNear{A: a, B: b})
			}
		}
	}
	return list
}

// tooNear reports whether two rooms are too near to each other, with so much nitrate in each.
func (s site) tooNear(amounts []int, a, b int) bool {
	danger := func(from, to int) bool {
		return amounts[from] > 0 && (amounts[to] > 0 || s.Rooms[to].People)
	}
	if !danger(a, b) && !danger(b, a) {
		return false
	}
	x, y := s.Rooms[a].X-s.Rooms[b].X, s.Rooms[a].Y-s.Rooms[b].Y
	keep := max(s.metres(amounts[a]), s.metres(amounts[b]))
	return x*x+y*y < keep*keep
}
