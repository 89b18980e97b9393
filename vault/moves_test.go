package vault

import (
	"math/rand/v2"
	"slices"
	"testing"

	"telecine/api"
)

// move returns a move.
func move(hour, can, to int) api.VtMove { return api.VtMove{Hour: hour, Can: can, To: to} }

// exampleMoves are the moves M of the chapter's examples.
func exampleMoves() []api.VtMove {
	return []api.VtMove{move(5, 1, 2), move(5, 0, 2), move(5, 0, 1), move(4, 1, 1), move(14, 0, 2), move(15, 0, 2), move(15, 1, 2)}
}

// diary has, for each hour, the room and the temperature of each can.
type diary struct {
	rooms [][]int
	temps [][]api.Span
}

// diaryOf returns the diary of a site up to an hour, by moves that are kept.
func diaryOf(s api.VtSite, kept []api.VtMove, last int) diary {
	var x diary
	var rooms []int
	var temps []api.Span
	for _, c := range s.Cans {
		rooms, temps = append(rooms, c.Room), append(temps, s.Rooms[c.Room].Temp)
	}
	for hour := range last + 1 {
		for _, m := range kept {
			if m.Hour == hour {
				rooms[m.Can] = m.To
			}
		}
		x.rooms, x.temps = append(x.rooms, slices.Clone(rooms)), append(x.temps, slices.Clone(temps))
		for i := range temps {
			temps[i] = slowWarmer(s.Rate, temps[i], s.Rooms[rooms[i]].Temp)
		}
	}
	return x
}

// slowWhy returns why a move is refused, behind moves that are kept.
func slowWhy(s api.VtSite, kept []api.VtMove, m api.VtMove) api.Errno {
	if slices.ContainsFunc(kept, func(k api.VtMove) bool { return k.Hour > m.Hour }) {
		return api.VtErrHour
	}
	x := diaryOf(s, kept, m.Hour)
	can, to, after := s.Cans[m.Can], s.Rooms[m.To], slices.Clone(x.rooms[m.Hour])
	after[m.Can] = m.To
	switch {
	case x.rooms[m.Hour][m.Can] == m.To:
		return api.VtErrSame
	case can.Base == api.FmNitrate && !to.Allows:
		return api.VtErrNitrate
	case slowAmount(s, after, m.To) > to.Most:
		return api.VtErrFull
	case len(slowNear(s, after)) > 0:
		return api.VtErrNear
	case slowSweats(x.temps[m.Hour][m.Can].Lo, to.Temp.Hi, to.Damp.Hi):
		return api.VtErrSweat
	}
	return api.OK
}

// slowPlay returns the moves that are kept, and why each one is refused.
func slowPlay(s api.VtSite, moves []api.VtMove) (kept []api.VtMove, why []api.Errno) {
	for _, m := range moves {
		e := slowWhy(s, kept, m)
		why = append(why, e)
		if e == api.OK {
			kept = append(kept, m)
		}
	}
	return kept, why
}

// anyMoves returns some moves of a site, most of them later than those before; none if there are no cans.
func anyMoves(d *rand.Rand, s api.VtSite) []api.VtMove {
	var moves []api.VtMove
	hour := 0
	for range d.IntN(20) {
		if len(s.Cans) > 0 {
			moves = append(moves, move(max(0, hour-max(0, d.IntN(12)-8)), d.IntN(len(s.Cans)), d.IntN(len(s.Rooms))))
		}
		hour += d.IntN(8)
	}
	return moves
}

// P3.7: the moves of the example.
func TestPlay(t *testing.T) {
	kept, why, e := Play(example(), exampleMoves())
	if !slices.Equal(kept, []api.VtMove{move(5, 0, 1), move(15, 0, 2)}) || e != api.OK {
		t.Errorf("Play = %v, %d", kept, e)
	}
	want := []api.Errno{api.VtErrFull, api.VtErrSweat, api.OK, api.VtErrHour, api.VtErrSweat, api.OK, api.VtErrFull}
	if !slices.Equal(why, want) {
		t.Errorf("why: %v", why)
	}
}

// P3.7: each reason for which a move is refused, and which one comes first.
func TestWhy(t *testing.T) {
	acetate := func(s *api.VtSite) { s.Cans[0].Base = api.FmAcetate }
	for i, c := range []struct {
		change func(s *api.VtSite)
		moves  []api.VtMove
		want   []api.Errno
	}{
		{func(s *api.VtSite) {}, nil, nil},
		{func(s *api.VtSite) {}, []api.VtMove{move(2400, 0, 1)}, []api.Errno{api.OK}},
		{func(s *api.VtSite) {}, []api.VtMove{move(0, 0, 0), move(0, 0, 1), move(0, 0, 1), move(0, 0, 0)}, []api.Errno{api.VtErrSame, api.OK, api.VtErrSame, api.OK}},
		// A refused move is not one that is kept: its hour does not count.
		{func(s *api.VtSite) {}, []api.VtMove{move(9, 0, 0), move(3, 0, 1), move(2, 0, 0), move(3, 0, 0)}, []api.Errno{api.VtErrSame, api.OK, api.VtErrHour, api.OK}},
		{func(s *api.VtSite) {}, []api.VtMove{move(9, 0, 1), move(8, 1, 0)}, []api.Errno{api.OK, api.VtErrHour}},
		{func(s *api.VtSite) { s.Rooms[1].Allows, s.Rooms[1].Most = false, 0 }, []api.VtMove{move(0, 0, 1)}, []api.Errno{api.VtErrNitrate}},
		{func(s *api.VtSite) { acetate(s); s.Rooms[1].Allows, s.Rooms[1].Most = false, 0 }, []api.VtMove{move(0, 0, 1)}, []api.Errno{api.OK}},
		{func(s *api.VtSite) { s.Rooms[1].Most = 899 }, []api.VtMove{move(0, 0, 1)}, []api.Errno{api.VtErrFull}},
		{func(s *api.VtSite) { s.Rooms[1].Most = 900 }, []api.VtMove{move(0, 0, 1)}, []api.Errno{api.OK}},
		{func(s *api.VtSite) { acetate(s); s.Rooms[1].Most = 1400 }, []api.VtMove{move(0, 1, 1), move(0, 0, 1)}, []api.Errno{api.OK, api.OK}},
		// Both cans together are too near to the people in room 2.
		{func(s *api.VtSite) { s.Rooms[1].Most = 2300 }, []api.VtMove{move(0, 1, 1), move(1, 0, 1)}, []api.Errno{api.OK, api.VtErrNear}},
		{func(s *api.VtSite) { s.Rooms[1].Most = 2299 }, []api.VtMove{move(0, 1, 1), move(1, 0, 1)}, []api.Errno{api.OK, api.VtErrFull}},
		{func(s *api.VtSite) { s.Rooms[1].Most, s.Steps[1].Metres = 2300, 40 }, []api.VtMove{move(0, 1, 1), move(1, 0, 1)}, []api.Errno{api.OK, api.OK}},
		{func(s *api.VtSite) { acetate(s); s.Rooms[1].Most = 2300 }, []api.VtMove{move(0, 1, 1), move(1, 0, 1)}, []api.Errno{api.OK, api.OK}},
		// Too cold; too near, and too cold.
		{func(s *api.VtSite) { s.Rooms[1].Most, s.Rooms[1].Damp = 2300, span(0, 1000) }, []api.VtMove{move(0, 1, 1)}, []api.Errno{api.VtErrSweat}},
		{func(s *api.VtSite) { s.Rooms[1].X, s.Rooms[1].Damp = 9, span(0, 1000) }, []api.VtMove{move(0, 1, 1)}, []api.Errno{api.VtErrNear}},
		// People in To itself are not too near.
		{func(s *api.VtSite) { acetate(s); s.Rooms[2].Most = 1400 }, []api.VtMove{move(5, 1, 1), move(15, 1, 2), move(15, 1, 0)}, []api.Errno{api.OK, api.OK, api.OK}},
		// Moves of the same can in the same hour leave its temperature.
		{acetate, []api.VtMove{move(5, 0, 1), move(5, 0, 0), move(5, 0, 1), move(14, 0, 2), move(15, 0, 2)}, []api.Errno{api.OK, api.OK, api.OK, api.VtErrSweat, api.OK}},
		{acetate, []api.VtMove{move(5, 0, 1), move(10, 0, 0), move(11, 0, 1), move(15, 0, 2), move(18, 0, 2)}, []api.Errno{api.OK, api.OK, api.OK, api.VtErrSweat, api.OK}},
	} {
		s := example()
		c.change(&s)
		if _, why, e := Play(s, c.moves); !slices.Equal(why, c.want) || e != api.OK {
			t.Errorf("%d: Play = %v, %d; want %v", i, why, e, c.want)
		}
	}
}

// P3.7: the same in any sites, for any moves.
func TestPlayOfAny(t *testing.T) {
	d := dice(7)
	counts := map[api.Errno]int{}
	for i := range 3000 {
		s := stocked(d)
		if i%2 == 0 {
			s = crowded(d)
		}
		moves := anyMoves(d, s)
		wantKept, wantWhy := slowPlay(s, moves)
		kept, why, e := Play(s, moves)
		if !slices.Equal(kept, wantKept) || !slices.Equal(why, wantWhy) || e != api.OK {
			t.Fatalf("Play of %+v, %v = %v, %v, %d; want %v, %v", s, moves, kept, why, e, wantKept, wantWhy)
		}
		for _, e := range why {
			counts[e]++
		}
	}
	for _, e := range []api.Errno{api.OK, api.VtErrHour, api.VtErrSame, api.VtErrNitrate, api.VtErrFull, api.VtErrNear, api.VtErrSweat} {
		if counts[e] < 200 {
			t.Errorf("the reasons: %v", counts)
		}
	}
}

// P3.7: where cans are, and how warm, by the moves of the example.
func TestWhereAndTemp(t *testing.T) {
	for hour, want := range map[int][]int{0: {0, 0}, 4: {0, 0}, 5: {1, 0}, 14: {1, 0}, 15: {2, 0}, 16: {2, 0}, 2400: {2, 0}} {
		if l, e := Where(example(), exampleMoves(), hour); !slices.Equal(l, want) || e != api.OK {
			t.Errorf("Where at %d = %v, %d", hour, l, e)
		}
	}
	for hour, want := range map[int]api.Span{0: span(20, 40), 5: span(20, 40), 6: span(36, 64), 14: span(87, 118), 15: span(89, 119), 16: span(111, 150), 24: span(184, 218), 2400: span(196, 220)} {
		if x, e := Temp(example(), exampleMoves(), 0, hour); x != want || e != api.OK {
			t.Errorf("Temp at %d = %v, %d", hour, x, e)
		}
	}
	if x, e := Temp(example(), exampleMoves(), 1, 2400); x != span(20, 40) || e != api.OK {
		t.Errorf("Temp = %v, %d", x, e)
	}
	s := example()
	s.Cans = nil
	if l, e := Where(s, nil, 0); len(l) != 0 || e != api.OK {
		t.Errorf("Where = %v, %d", l, e)
	}
}

// P3.7 and P3.8: the same in any sites, at all hours.
func TestHoursOfAny(t *testing.T) {
	d := dice(8)
	for range 200 {
		s := stocked(d)
		moves := anyMoves(d, s)
		kept, _ := slowPlay(s, moves)
		x := diaryOf(s, kept, 192)
		for hour, rooms := range x.rooms {
			if l, e := Where(s, moves, hour); !slices.Equal(l, rooms) || e != api.OK {
				t.Fatalf("Where of %+v, %v at %d = %v, %d; want %v", s, moves, hour, l, e, rooms)
			}
			for can, temp := range x.temps[hour] {
				if y, e := Temp(s, moves, can, hour); y != temp || e != api.OK {
					t.Fatalf("Temp of %+v, %v, %d at %d = %v, %d; want %v", s, moves, can, hour, y, e, temp)
				}
			}
		}
		for can := range s.Cans {
			want := x.climates(s, can, 8)
			if l, e := Climates(s, moves, can, 8); !slices.Equal(l, want) || e != api.OK {
				t.Fatalf("Climates of %+v, %v, %d = %v, %d; want %v", s, moves, can, l, e, want)
			}
		}
	}
}

// climates returns the climates of a can on the first days of a diary.
func (x diary) climates(s api.VtSite, can, days int) []api.DcDay {
	var list []api.DcDay
	for day := range days {
		c := api.DcDay{Temp: span(601, -301), Damp: span(1001, -1)}
		for hour := 24 * day; hour <= 24*day+24; hour++ {
			temp, damp := x.temps[hour][can], s.Rooms[x.rooms[hour][can]].Damp
			c.Temp = span(min(c.Temp.Lo, temp.Lo), max(c.Temp.Hi, temp.Hi))
			if hour < 24*day+24 {
				c.Damp = span(min(c.Damp.Lo, damp.Lo), max(c.Damp.Hi, damp.Hi))
			}
		}
		list = append(list, c)
	}
	return list
}

// P3.8: the climates of the example, and of moves where days begin and end.
func TestClimates(t *testing.T) {
	day := func(coldest, warmest, driest, dampest int) api.DcDay {
		return api.DcDay{Temp: span(coldest, warmest), Damp: span(driest, dampest)}
	}
	cold := day(20, 40, 300, 400)
	for i, c := range []struct {
		moves     []api.VtMove
		can, days int
		want      []api.DcDay
	}{
		{exampleMoves(), 0, 1, []api.DcDay{day(20, 218, 300, 450)}},
		{exampleMoves(), 0, 2, []api.DcDay{day(20, 218, 300, 450), day(184, 220, 400, 450)}},
		{exampleMoves(), 1, 2, []api.DcDay{cold, cold}},
		{exampleMoves(), 0, 0, nil},
		{nil, 0, 1, []api.DcDay{cold}},
		// The temperature behind the last hour of a day belongs to it, the room in which the can is then does not.
		{[]api.VtMove{move(23, 0, 1), move(24, 0, 0)}, 0, 2, []api.DcDay{day(20, 64, 300, 450), day(20, 64, 300, 400)}},
		{[]api.VtMove{move(24, 0, 1)}, 0, 2, []api.DcDay{cold, day(20, 120, 350, 450)}},
		// A room that is left in the same hour is none in which the can is.
		{[]api.VtMove{move(3, 0, 1), move(3, 0, 0)}, 0, 1, []api.DcDay{cold}},
	} {
		if l, e := Climates(example(), c.moves, c.can, c.days); !slices.Equal(l, c.want) || e != api.OK {
			t.Errorf("%d: Climates = %v, %d; want %v", i, l, e, c.want)
		}
	}
	l, e := Climates(example(), []api.VtMove{move(2399, 1, 1), move(2400, 1, 0)}, 1, 100)
	if len(l) != 100 || l[98] != cold || l[99] != day(20, 64, 300, 450) || e != api.OK {
		t.Errorf("Climates = %v, %d", l, e)
	}
}

// P3.7 and P3.8: what is wrong with moves comes first, and the first move with an error decides.
func TestMovesErrors(t *testing.T) {
	s := example()
	for i, c := range []struct {
		moves []api.VtMove
		e     api.Errno
	}{
		{make([]api.VtMove, 60), api.OK},
		{make([]api.VtMove, 61), api.ErrLong},
		{slices.Repeat([]api.VtMove{move(-1, 9, 9)}, 61), api.ErrLong},
		{[]api.VtMove{move(-1, 0, 0)}, api.ErrRange},
		{[]api.VtMove{move(2401, 0, 0)}, api.ErrRange},
		{[]api.VtMove{move(-1, 2, 3)}, api.ErrRange},
		{[]api.VtMove{move(2400, 2, 0)}, api.ErrNone},
		{[]api.VtMove{move(0, -1, 0)}, api.ErrNone},
		{[]api.VtMove{move(0, 0, 3)}, api.ErrNone},
		{[]api.VtMove{move(0, 0, -1)}, api.ErrNone},
		{[]api.VtMove{move(0, 0, 1), move(0, 2, 0), move(-1, 0, 0)}, api.ErrNone},
		{[]api.VtMove{move(0, 0, 1), move(-1, 0, 0), move(0, 2, 0)}, api.ErrRange},
	} {
		kept, why, e := Play(s, c.moves)
		if e != c.e || e != api.OK && (kept != nil || why != nil) {
			t.Errorf("%d: Play = %v, %v, %d", i, kept, why, e)
		}
		if c.e == api.OK {
			continue
		}
		where, e := Where(s, c.moves, -1)
		temp, f := Temp(s, c.moves, -1, -1)
		climates, g := Climates(s, c.moves, -1, -1)
		if where != nil || temp != (api.Span{}) || climates != nil || e != c.e || f != c.e || g != c.e {
			t.Errorf("%d: %v, %d; %v, %d; %v, %d", i, where, e, temp, f, climates, g)
		}
	}
}

// P3.7 and P3.8: what is wrong besides moves.
func TestHoursErrors(t *testing.T) {
	s := example()
	for _, hour := range []int{-1, 2401, -1 << 63, 1<<63 - 1} {
		if l, e := Where(s, exampleMoves(), hour); l != nil || e != api.ErrRange {
			t.Errorf("Where at %d = %v, %d", hour, l, e)
		}
		if x, e := Temp(s, exampleMoves(), 0, hour); x != (api.Span{}) || e != api.ErrRange {
			t.Errorf("Temp at %d = %v, %d", hour, x, e)
		}
		for _, can := range []int{-1, 2, 1<<63 - 1} {
			if x, e := Temp(s, exampleMoves(), can, hour); x != (api.Span{}) || e != api.ErrNone {
				t.Errorf("Temp of %d at %d = %v, %d", can, hour, x, e)
			}
		}
	}
	for _, days := range []int{-1, 101, -1 << 63, 1 << 61, 1<<63 - 1} {
		if l, e := Climates(s, exampleMoves(), 1, days); l != nil || e != api.ErrRange {
			t.Errorf("Climates for %d days = %v, %d", days, l, e)
		}
		for _, can := range []int{-1, 2, 1<<63 - 1} {
			if l, e := Climates(s, exampleMoves(), can, days); l != nil || e != api.ErrNone {
				t.Errorf("Climates of %d for %d days = %v, %d", can, days, l, e)
			}
		}
	}
}
