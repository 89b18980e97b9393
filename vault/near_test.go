package vault

import (
	"math"
	"slices"
	"testing"

	"telecine/api"
)

// slowAmount returns how much nitrate is in a room.
func slowAmount(s api.VtSite, where []int, room int) int {
	amount := 0
	for i, c := range s.Cans {
		if c.Base == api.FmNitrate && where[i] == room {
			amount += c.Frames
		}
	}
	return amount
}

// slowKeep returns the distance that a room has to keep.
func slowKeep(s api.VtSite, amount int) int {
	for _, step := range slices.Backward(s.Steps) {
		if amount > 0 && step.Over < amount {
			return step.Metres
		}
	}
	return 0
}

// slowNear returns the pairs of rooms that are too near to each other.
func slowNear(s api.VtSite, where []int) []api.VtNear {
	var list []api.VtNear
	for a, r := range s.Rooms {
		for b, q := range s.Rooms {
			m, n := slowAmount(s, where, a), slowAmount(s, where, b)
			apart := math.Hypot(float64(r.X-q.X), float64(r.Y-q.Y))
			matters := m > 0 && (n > 0 || q.People) || n > 0 && (m > 0 || r.People)
			if a < b && matters && apart < float64(max(slowKeep(s, m), slowKeep(s, n)))-1e-9 {
				list = append(list, api.VtNear{A: a, B: b})
			}
		}
	}
	return list
}

// anyWhere returns some room for each can.
func anyWhere(s api.VtSite, room func() int) []int {
	var where []int
	for range s.Cans {
		where = append(where, room())
	}
	return where
}

// P3.6: which rooms are too near, and what is wrong first.
func TestNear(t *testing.T) {
	near := func(a, b int) []api.VtNear { return []api.VtNear{{A: a, B: b}} }
	for i, c := range []struct {
		change func(s *api.VtSite)
		where  []int
		want   []api.VtNear
		e      api.Errno
	}{
		{func(s *api.VtSite) {}, []int{0, 0}, nil, api.OK},
		{func(s *api.VtSite) {}, []int{0, 1}, nil, api.OK},
		{func(s *api.VtSite) {}, []int{1, 1}, near(1, 2), api.OK},
		// 2300 frames in room 2 are 40 metres from room 1, where neither nitrate nor people are.
		{func(s *api.VtSite) {}, []int{2, 2}, nil, api.OK},
		{func(s *api.VtSite) { s.Rooms[1].People, s.Rooms[0].X = true, 100 }, []int{2, 2}, near(1, 2), api.OK},
		{func(s *api.VtSite) { s.Rooms[1].People, s.Rooms[0].X, s.Steps[1].Metres = true, 100, 40 }, []int{2, 2}, nil, api.OK},
		{func(s *api.VtSite) { s.Rooms[1].People, s.Rooms[0].X, s.Steps[1].Metres = true, 100, 41 }, []int{2, 2}, near(1, 2), api.OK},
		// Over has to be below the amount.
		{func(s *api.VtSite) { s.Steps[1].Over = 2299 }, []int{1, 1}, near(1, 2), api.OK},
		{func(s *api.VtSite) { s.Steps[1].Over = 2300 }, []int{1, 1}, nil, api.OK},
		{func(s *api.VtSite) { s.Cans[0].Frames = 100 }, []int{1, 1}, nil, api.OK},
		{func(s *api.VtSite) { s.Cans[0].Base = api.FmAcetate }, []int{1, 1}, nil, api.OK},
		// The greater one of both distances is kept.
		{func(s *api.VtSite) { s.Cans[1].Frames = 1600 }, []int{0, 1}, []api.VtNear{{A: 0, B: 1}, {A: 1, B: 2}}, api.OK},
		{func(s *api.VtSite) { s.Cans[1].Frames = 1600 }, []int{1, 0}, near(0, 1), api.OK},
		{func(s *api.VtSite) { s.Rooms[1].X = 10 }, []int{0, 1}, nil, api.OK},
		{func(s *api.VtSite) { s.Rooms[1].X = 9 }, []int{0, 1}, near(0, 1), api.OK},
		{func(s *api.VtSite) { s.Rooms[1].X = 9 }, []int{0, 2}, nil, api.OK},
		{func(s *api.VtSite) { s.Rooms[1].X, s.Cans[1].Base = 9, api.FmPolyester }, []int{0, 1}, nil, api.OK},
		{func(s *api.VtSite) { s.Rooms[1].X, s.Rooms[1].Y = 6, 8 }, []int{0, 1}, nil, api.OK},
		{func(s *api.VtSite) { s.Rooms[1].X, s.Rooms[1].Y = 6, 7 }, []int{0, 1}, near(0, 1), api.OK},
		{func(s *api.VtSite) { s.Rooms[1].X = 0 }, []int{0, 1}, near(0, 1), api.OK},
		{func(s *api.VtSite) { s.Rooms[1].X, s.Steps = 0, nil }, []int{0, 1}, nil, api.OK},
		{func(s *api.VtSite) { s.Rooms[1].X, s.Steps[0].Over = 0, 1400 }, []int{0, 1}, nil, api.OK},
		{func(s *api.VtSite) { s.Rooms[1].X, s.Steps[0].Over = 0, 1399 }, []int{0, 1}, near(0, 1), api.OK},
		// One frame is nitrate too.
		{func(s *api.VtSite) { s.Rooms[1].X, s.Cans[0].Frames, s.Cans[1].Frames = 9, 1, 1 }, []int{0, 1}, near(0, 1), api.OK},
		{func(s *api.VtSite) { s.Rooms[1].X, s.Cans[0].Frames = 9, 1 }, []int{0, 1}, near(0, 1), api.OK},
		// A room is not too near to itself; rooms with people alone are not too near.
		{func(s *api.VtSite) { s.Rooms[1].People, s.Rooms[1].Y = true, 40 }, []int{0, 0}, nil, api.OK},
		{func(s *api.VtSite) { s.Rooms[1].People, s.Rooms[1].Y = true, 40 }, []int{1, 0}, near(1, 2), api.OK},
		// A room need not allow nitrate, or so much of it.
		{func(s *api.VtSite) { s.Rooms[1].Allows, s.Rooms[1].Most = false, 0 }, []int{1, 1}, near(1, 2), api.OK},
		{func(s *api.VtSite) { s.Cans = nil }, nil, nil, api.OK},
		{func(s *api.VtSite) { s.Cans = nil }, []int{0}, nil, api.ErrArg},
		{func(s *api.VtSite) {}, nil, nil, api.ErrArg},
		{func(s *api.VtSite) {}, []int{9}, nil, api.ErrArg},
		{func(s *api.VtSite) {}, []int{0, 0, 0}, nil, api.ErrArg},
		{func(s *api.VtSite) {}, []int{0, 3}, nil, api.ErrNone},
		{func(s *api.VtSite) {}, []int{-1, 1}, nil, api.ErrNone},
	} {
		s := example()
		c.change(&s)
		if l, e := Near(s, c.where); !slices.Equal(l, c.want) || e != c.e {
			t.Errorf("%d: Near = %v, %d; want %v, %d", i, l, e, c.want, c.e)
		}
	}
}

// P3.6: all pairs of rooms of any sites, with cans in any rooms.
func TestNearOfAny(t *testing.T) {
	d := dice(6)
	counts := map[int]int{}
	for range 3000 {
		s := crowded(d)
		where := anyWhere(s, func() int { return d.IntN(len(s.Rooms)) })
		want := slowNear(s, where)
		if l, e := Near(s, where); !slices.Equal(l, want) || e != api.OK {
			t.Fatalf("Near of %+v, %v = %v, %d; want %v", s, where, l, e, want)
		}
		counts[min(len(want), 3)]++
	}
	for n := range 4 {
		if counts[n] < 100 {
			t.Errorf("so many sites have so many pairs: %v", counts)
		}
	}
}
