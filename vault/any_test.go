package vault

import (
	"math"
	"reflect"
	"slices"
	"strconv"
	"strings"
	"testing"

	"telecine/api"
)

// corners are ints at the ends of what an int can be, of the ranges, and around 0.
func corners() []int {
	return []int{math.MinInt, math.MinInt + 1, math.MinInt32, -301, -300, -1, 0, 1, 2, 3, 100, 101, 600, 601, api.All, api.MaxVtHours, api.MaxVtHours + 1, api.MaxVtMetres, api.MaxFrames, api.MaxVtAmount, math.MaxInt32, 1 << 61, math.MaxInt - 1, math.MaxInt}
}

// every calls all functions that take a site but Check, with a number in each place that has one, and returns their errors.
func every(s api.VtSite, n int) [10]api.Errno {
	moves := []api.VtMove{move(n, n, n)}
	_, _, sweats := Sweats(s, span(n, n), n)
	_, warm := Warm(s, span(n, n), n, n)
	_, _, wait := Wait(s, span(n, n), n, n)
	_, _, way := Path(s, n, span(n, n), n, n)
	_, near := Near(s, []int{n})
	_, _, play := Play(s, moves)
	_, where := Where(s, moves, n)
	_, temp := Temp(s, moves, n, n)
	_, climates := Climates(s, moves, n, n)
	_, still := Climates(s, nil, 0, n)
	return [10]api.Errno{sweats, warm, wait, way, near, play, where, temp, climates, still}
}

// full is a site with as much of everything as the limits allow.
func full() api.VtSite {
	s := api.VtSite{Rate: span(1, 100)}
	for i := range api.MaxVtRooms {
		r := api.VtRoom{Name: strings.Repeat("r", api.MaxName-2) + strconv.Itoa(10+i), Temp: span(api.MinTemp, api.MaxTemp), Damp: span(0, api.All), Allows: true, Most: api.MaxVtAmount}
		r.X, r.Y = i%2*api.MaxVtMetres, i/2*api.MaxVtMetres/6
		s.Rooms = append(s.Rooms, r)
	}
	for i := range api.MaxVtCans {
		s.Cans = append(s.Cans, api.VtCan{Name: strings.Repeat("c", api.MaxName-2) + strconv.Itoa(10+i), Base: api.FmNitrate, Frames: api.MaxFrames})
	}
	for i := range api.MaxVtSteps {
		s.Steps = append(s.Steps, api.VtStep{Over: api.MaxVtAmount - 10 + i, Metres: api.MaxVtMetres})
	}
	return s
}

// P3.15 and DOC's P1: numbers far beyond the limits, in each place of a site, are accepted, and all functions return the error of Check first.
func TestAnySite(t *testing.T) {
	places := []func(s *api.VtSite, n int){
		func(s *api.VtSite, n int) { s.Rooms[1].Temp.Lo = n }, func(s *api.VtSite, n int) { s.Rooms[1].Temp.Hi = n }, func(s *api.VtSite, n int) { s.Rooms[1].Damp.Lo = n }, func(s *api.VtSite, n int) { s.Rooms[1].Damp.Hi = n },
		func(s *api.VtSite, n int) { s.Rooms[1].Most = n }, func(s *api.VtSite, n int) { s.Rooms[1].X = n }, func(s *api.VtSite, n int) { s.Rooms[1].Y = n },
		func(s *api.VtSite, n int) { s.Cans[1].Base = n }, func(s *api.VtSite, n int) { s.Cans[1].Frames = n }, func(s *api.VtSite, n int) { s.Cans[1].Room = n },
		func(s *api.VtSite, n int) { s.Rate.Lo = n }, func(s *api.VtSite, n int) { s.Rate.Hi = n }, func(s *api.VtSite, n int) { s.Steps[1].Over = n }, func(s *api.VtSite, n int) { s.Steps[1].Metres = n },
	}
	for i, put := range places {
		for _, n := range corners() {
			s := example()
			put(&s, n)
			_, _, e := Check(s)
			for _, m := range corners() {
				for j, f := range every(s, m) {
					if e != api.OK && f != e {
						t.Errorf("place %d is %d: Check: %d; function %d: %d", i, n, e, j, f)
					}
				}
			}
		}
	}
}

// P3.15: numbers far beyond the limits besides a site are accepted.
func TestAnyNumbers(t *testing.T) {
	s := example()
	for _, a := range corners() {
		Vapour(a)
		for _, b := range corners() {
			Dew(a, b)
			Near(s, []int{a, b})
			Play(s, []api.VtMove{move(a, 0, b), move(0, b, a), move(b, a, 0)})
			Temp(s, exampleMoves(), a, b)
			Climates(s, exampleMoves(), a, b)
			for _, room := range []int{math.MinInt, -1, 0, 2, 3, math.MaxInt} {
				Sweats(s, span(a, b), room)
				Warm(s, span(a, b), room, b)
				Wait(s, span(a, b), room, b)
				Path(s, a, span(a, b), room, b)
				Path(s, api.FmNitrate, span(a, b), room, 2)
			}
		}
	}
}

// DOC's R2: with the error of a site all other results are zero, whatever they would be without it.
func TestZeroWithErrors(t *testing.T) {
	s := example()
	s.Steps[1].Metres = 9
	if sure, may, e := Sweats(s, span(20, 40), 2); sure || may || e != api.ErrArg {
		t.Errorf("Sweats = %t, %t, %d", sure, may, e)
	}
	if x, e := Warm(s, span(20, 40), 1, 1); x != (api.Span{}) || e != api.ErrArg {
		t.Errorf("Warm = %v, %d", x, e)
	}
	if n, x, e := Wait(s, span(20, 40), 1, 2); n != 0 || x != (api.Span{}) || e != api.ErrArg {
		t.Errorf("Wait = %d, %v, %d", n, x, e)
	}
	if l, n, e := Path(s, api.FmNitrate, span(20, 40), 0, 2); l != nil || n != 0 || e != api.ErrArg {
		t.Errorf("Path = %v, %d, %d", l, n, e)
	}
	if l, e := Near(s, []int{1, 1}); l != nil || e != api.ErrArg {
		t.Errorf("Near = %v, %d", l, e)
	}
	if kept, why, e := Play(s, exampleMoves()); kept != nil || why != nil || e != api.ErrArg {
		t.Errorf("Play = %v, %v, %d", kept, why, e)
	}
	if l, e := Where(s, exampleMoves(), 5); l != nil || e != api.ErrArg {
		t.Errorf("Where = %v, %d", l, e)
	}
	if x, e := Temp(s, exampleMoves(), 0, 5); x != (api.Span{}) || e != api.ErrArg {
		t.Errorf("Temp = %v, %d", x, e)
	}
	if l, e := Climates(s, exampleMoves(), 0, 1); l != nil || e != api.ErrArg {
		t.Errorf("Climates = %v, %d", l, e)
	}
}

// P3.15: as much as the limits allow, and nothing at all.
func TestFullAndEmpty(t *testing.T) {
	s := full()
	if part, at, e := Check(s); part != 0 || at != 0 || e != api.OK {
		t.Errorf("Check = %d, %d, %d", part, at, e)
	}
	// In each room any temperature is possible, and it can be as damp as can be: nothing but a can of 600 does not perhaps sweat.
	moves := slices.Repeat([]api.VtMove{move(api.MaxVtHours, 29, 11)}, api.MaxVtMoves)
	kept, why, e := Play(s, moves)
	if len(kept) != 0 || len(why) != len(moves) || why[59] != api.VtErrSweat || e != api.OK {
		t.Errorf("Play = %v, %v, %d", kept, why, e)
	}
	for i := range s.Rooms {
		s.Rooms[i].Damp = span(0, 0)
	}
	var all []api.VtMove
	for i := range api.MaxVtMoves {
		all = append(all, move(api.MaxVtHours*i/60, i%30, 1+i%11))
	}
	kept, _, e = Play(s, all)
	if len(kept) != len(all) || e != api.OK {
		t.Errorf("Play = %v, %d", kept, e)
	}
	stays, hours, e := Path(s, api.FmNitrate, span(600, 600), 0, 11)
	if !slices.Equal(stays, []api.VtStay{{Room: 0}, {Room: 11}}) || hours != 0 || e != api.OK {
		t.Errorf("Path = %v, %d, %d", stays, hours, e)
	}
	if l, e := Climates(s, all, 29, 100); len(l) != 100 || l[99] != (api.DcDay{Temp: span(-300, 600)}) || e != api.OK {
		t.Errorf("Climates = %v, %d", l, e)
	}
	for j, e := range every(api.VtSite{}, 0) {
		if e != api.ErrLong {
			t.Errorf("function %d: %d", j, e)
		}
	}
}

// P3.15: no argument is modified, also not behind the ends of its lists.
func TestArgumentsStay(t *testing.T) {
	d := dice(16)
	for range 500 {
		s := crowded(d)
		whole := s
		whole.Rooms, whole.Cans, whole.Steps = slices.Concat(s.Rooms, s.Rooms), slices.Concat(s.Cans, s.Cans), slices.Concat(s.Steps, s.Steps)
		y := whole
		y.Rooms, y.Cans, y.Steps = whole.Rooms[:len(s.Rooms)], whole.Cans[:len(s.Cans)], whole.Steps[:len(s.Steps)]
		moves := anyMoves(d, s)
		where := anyWhere(s, func() int { return d.IntN(len(s.Rooms)) })
		before, movesBefore, whereBefore := copied(whole), slices.Clone(moves), slices.Clone(where)
		Check(y)
		every(y, 0)
		Near(y, where)
		Play(y, moves)
		Where(y, moves, 20)
		Temp(y, moves, 0, 20)
		Climates(y, moves, 0, 3)
		Path(y, api.FmAcetate, anyTemp(d), 0, len(s.Rooms)-1)
		if !reflect.DeepEqual(whole, before) || !slices.Equal(moves, movesBefore) || !slices.Equal(where, whereBefore) {
			t.Fatalf("%+v became %+v; %v became %v; %v became %v", before, whole, movesBefore, moves, whereBefore, where)
		}
	}
}

// P3.15: results are new memory: what is done to them changes neither an argument nor a later result.
func TestResultsAreNewMemory(t *testing.T) {
	s, moves := example(), []api.VtMove{move(5, 0, 1), move(15, 0, 2)}
	for range 2 {
		kept, why, _ := Play(s, moves)
		where, _ := Where(s, moves, 20)
		climates, _ := Climates(s, moves, 0, 1)
		stays, _, _ := Path(s, api.FmNitrate, span(20, 40), 0, 2)
		near, _ := Near(s, []int{1, 1})
		if !slices.Equal(kept, moves) || !slices.Equal(why, []api.Errno{api.OK, api.OK}) || !slices.Equal(where, []int{2, 0}) || climates[0].Temp != span(20, 218) || stays[1] != (api.VtStay{Room: 1, Hours: 10}) || near[0] != (api.VtNear{A: 1, B: 2}) {
			t.Errorf("%v, %v, %v, %v, %v, %v", kept, why, where, climates, stays, near)
		}
		for i := range kept {
			kept[i], why[i] = move(9, 9, 9), api.ErrNil
		}
		where[0], climates[0], stays[1], near[0] = 9, api.DcDay{}, api.VtStay{}, api.VtNear{}
	}
	if !reflect.DeepEqual(s, example()) || !slices.Equal(moves, []api.VtMove{move(5, 0, 1), move(15, 0, 2)}) {
		t.Errorf("the site became %+v, the moves %v", s, moves)
	}
}
