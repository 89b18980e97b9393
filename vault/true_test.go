package vault

import (
	"math"
	"math/rand/v2"
	"slices"
	"testing"

	"telecine/api"
)

// one returns some number of a span, often its least or its greatest one.
func one(d *rand.Rand, s api.Span) int {
	return []int{s.Lo, from(d, s.Lo, s.Hi), s.Hi}[d.IntN(3)]
}

// walk returns what the temperature of a can really is, an hour after it was another one, in a room of a site.
func walk(d *rand.Rand, s api.VtSite, temp int, room api.VtRoom) int {
	change := float64((one(d, room.Temp)-temp)*one(d, s.Rate)) / 100
	if d.IntN(2) == 0 {
		return temp + int(math.Floor(change))
	}
	return temp + int(math.Ceil(change))
}

// inClimate reports whether what a can has in an hour is in its climate.
func inClimate(c api.DcDay, temp int, damp api.Span) bool {
	return within(temp, c.Temp.Lo, c.Temp.Hi) && within(damp.Lo, c.Damp.Lo, c.Damp.Hi) && within(damp.Hi, c.Damp.Lo, c.Damp.Hi)
}

// follow lets a can have any temperatures that it can really have, holds them against what is said of it, and returns how often it is moved.
func follow(t *testing.T, d *rand.Rand, s api.VtSite, moves []api.VtMove, can, days int) (moved int) {
	t.Helper()
	kept, _, _ := Play(s, moves)
	climates, _ := Climates(s, moves, can, days)
	room := s.Cans[can].Room
	temp := one(d, s.Rooms[room].Temp)
	for hour := range 24*days + 1 {
		said, e := Temp(s, moves, can, hour)
		if !within(temp, said.Lo, said.Hi) || e != api.OK {
			t.Fatalf("%+v, %v: can %d has %d at %d; Temp = %v, %d", s, moves, can, temp, hour, said, e)
		}
		if hour > 0 && !within(temp, climates[(hour-1)/24].Temp.Lo, climates[(hour-1)/24].Temp.Hi) {
			t.Fatalf("%+v, %v: can %d has %d at %d, behind a day with %v", s, moves, can, temp, hour, climates[(hour-1)/24])
		}
		for _, m := range kept {
			if m.Hour != hour || m.Can != can {
				continue
			}
			room, moved = m.To, moved+1
			if r := s.Rooms[room]; slowSweats(temp, one(d, r.Temp), one(d, r.Damp)) {
				t.Fatalf("%+v, %v: can %d sweats at %d", s, moves, can, hour)
			}
		}
		if hour < 24*days && !inClimate(climates[hour/24], temp, s.Rooms[room].Damp) {
			t.Fatalf("%+v, %v: can %d has %d at %d, on a day with %v", s, moves, can, temp, hour, climates[hour/24])
		}
		temp = walk(d, s, temp, s.Rooms[room])
	}
	return moved
}

// P3.9: whatever rooms and cans really have, temperatures are in what is said, and no can sweats that is moved.
func TestTemperatureIsTrue(t *testing.T) {
	d := dice(9)
	moved := 0
	for range 300 {
		s := crowded(d)
		moves := anyMoves(d, s)
		for can := range s.Cans {
			moved += follow(t, d, s, moves, can, 3)
		}
	}
	if moved < 200 {
		t.Errorf("only %d moves", moved)
	}
}

// P3.10: at each hour each can is where it was, or where it is moved; there is nowhere too much nitrate, or too near.
func TestOnePlace(t *testing.T) {
	d := dice(10)
	for range 300 {
		s := crowded(d)
		moves := anyMoves(d, s)
		kept, _, _ := Play(s, moves)
		rooms := diaryOf(s, kept, 150).rooms
		for hour, want := range rooms {
			where, e := Where(s, moves, hour)
			if !slices.Equal(where, want) || e != api.OK {
				t.Fatalf("Where of %+v, %v at %d = %v, %d; want %v", s, moves, hour, where, e, want)
			}
			for room, r := range s.Rooms {
				if n := slowAmount(s, where, room); n > r.Most || n > 0 && !r.Allows {
					t.Fatalf("%+v, %v: %d frames of nitrate in %d at %d", s, moves, n, room, hour)
				}
			}
			if near, e := Near(s, where); len(slowNear(s, where)) > 0 || len(near) > 0 || e != api.OK {
				t.Fatalf("%+v, %v: %v are too near at %d: %d", s, moves, near, hour, e)
			}
		}
	}
}

// inside reports whether all numbers of a span are in another one.
func inside(a, b api.Span) bool { return b.Lo <= a.Lo && a.Hi <= b.Hi }

// narrower returns some span in another one.
func narrower(d *rand.Rand, s api.Span) api.Span { return anySpan(d, s.Lo, s.Hi) }

// P3.11: with narrower rooms and rates a can sweats in no more cases, and surely in no fewer.
func TestNarrower(t *testing.T) {
	d := dice(11)
	never, surely, waits := 0, 0, 0
	for range 3000 {
		s := damped(d)
		for i := range s.Rooms {
			s.Rooms[i].Damp.Lo = s.Rooms[i].Damp.Hi - d.IntN(100)
		}
		y := copied(s)
		y.Rate = narrower(d, s.Rate)
		for i, r := range s.Rooms {
			y.Rooms[i].Temp, y.Rooms[i].Damp = narrower(d, r.Temp), narrower(d, r.Damp)
		}
		room, next, hours := d.IntN(len(s.Rooms)), d.IntN(len(s.Rooms)), d.IntN(30)
		temp := anyTemp(d)
		wide, _ := Warm(s, temp, room, hours)
		narrow, e := Warm(y, narrower(d, temp), room, hours)
		if !inside(narrow, wide) || e != api.OK {
			t.Fatalf("Warm of %+v, %v, %d, %d = %v; narrower: %v, %d", s, temp, room, hours, wide, narrow, e)
		}
		sure, may, _ := Sweats(s, wide, next)
		sureToo, mayToo, e := Sweats(y, narrow, next)
		if sure && !sureToo || mayToo && !may || e != api.OK {
			t.Fatalf("Sweats of %+v, %v, %d = %t, %t; narrower: %t, %t, %d", s, wide, next, sure, may, sureToo, mayToo, e)
		}
		if !may {
			never++
		}
		if sure {
			surely++
		}
		if n, _, e := Wait(s, temp, room, next); e == api.OK {
			waits++
			if m, _, e := Wait(y, temp, room, next); m > n || e != api.OK {
				t.Fatalf("Wait of %+v, %v, %d, %d = %d; narrower %+v: %d, %d", s, temp, room, next, n, y, m, e)
			}
		}
	}
	if never < 100 || surely < 100 || waits < 100 {
		t.Errorf("never, surely, waits: %d, %d, %d", never, surely, waits)
	}
}

// P3.14: without the moves that are refused none of the others is.
func TestKeptAgain(t *testing.T) {
	d := dice(14)
	refused := 0
	for range 2000 {
		s := crowded(d)
		moves := anyMoves(d, s)
		kept, why, _ := Play(s, moves)
		again, all, e := Play(s, kept)
		if !slices.Equal(again, kept) || slices.ContainsFunc(all, func(e api.Errno) bool { return e != api.OK }) || e != api.OK {
			t.Fatalf("Play of %+v, %v = %v, %v, %d", s, kept, again, all, e)
		}
		refused += len(why) - len(kept)
	}
	if refused < 1000 {
		t.Errorf("only %d are refused", refused)
	}
}

// P3.14: what is said of a move, and of cans before an hour, does not depend on later moves.
func TestLaterMoves(t *testing.T) {
	d := dice(15)
	for range 500 {
		s := crowded(d)
		moves := anyMoves(d, s)
		early := moves[:d.IntN(len(moves)+1)]
		kept, why, _ := Play(s, moves)
		keptToo, whyToo, e := Play(s, early)
		if !slices.Equal(keptToo, kept[:len(keptToo)]) || !slices.Equal(whyToo, why[:len(early)]) || e != api.OK {
			t.Fatalf("Play of %+v, %v = %v, %v; of %d moves: %v, %v, %d", s, moves, kept, why, len(early), keptToo, whyToo, e)
		}
		first := 60 // the hour of the first move of those that are later
		for _, m := range moves[len(early):] {
			first = min(first, m.Hour)
		}
		for hour := range first {
			a, _ := Where(s, moves, hour)
			b, e := Where(s, early, hour)
			if !slices.Equal(a, b) || e != api.OK {
				t.Fatalf("Where of %+v, %v at %d = %v; of %d moves: %v, %d", s, moves, hour, a, len(early), b, e)
			}
			for can := range s.Cans {
				x, _ := Temp(s, moves, can, hour)
				y, e := Temp(s, early, can, hour)
				if x != y || e != api.OK {
					t.Fatalf("Temp of %+v, %v, %d at %d = %v; of %d moves: %v, %d", s, moves, can, hour, x, len(early), y, e)
				}
			}
		}
	}
}
