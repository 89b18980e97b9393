package vault

import (
	"cmp"
	"math"
	"math/rand/v2"
	"slices"
	"testing"

	"telecine/api"
)

// slowWarmer returns the temperature of a can after an hour in air of a temperature.
func slowWarmer(rate, temp, air api.Span) api.Span {
	low, high := rate.Lo, rate.Lo
	if air.Lo < temp.Lo {
		low = rate.Hi
	}
	if air.Hi > temp.Hi {
		high = rate.Hi
	}
	down := math.Floor(float64((air.Lo-temp.Lo)*low) / 100)
	up := math.Ceil(float64((air.Hi-temp.Hi)*high) / 100)
	return span(temp.Lo+int(down), temp.Hi+int(up))
}

// slowWait returns for how many hours a can has to wait (-1: for too many), and its temperature then.
func slowWait(s api.VtSite, temp api.Span, room, next int) (int, api.Span) {
	air := s.Rooms[next]
	for hours := range 501 {
		if !slowSweats(temp.Lo, air.Temp.Hi, air.Damp.Hi) {
			return hours, temp
		}
		temp = slowWarmer(s.Rate, temp, s.Rooms[room].Temp)
	}
	return -1, api.Span{}
}

// path is a way, and its hours together.
type path struct {
	stays []api.VtStay
	hours int
}

// better compares two ways, the better one first.
func better(a, b path) int {
	rooms := slices.CompareFunc(a.stays, b.stays, func(x, y api.VtStay) int { return cmp.Compare(x.Room, y.Room) })
	return cmp.Or(cmp.Compare(a.hours, b.hours), cmp.Compare(len(a.stays), len(b.stays)), rooms)
}

// slowPaths returns all ways that begin with some rooms, and go on from a room to another one.
func slowPaths(s api.VtSite, base int, temp api.Span, begin path, at, to int) []path {
	if at == to {
		return []path{{append(slices.Clone(begin.stays), api.VtStay{Room: to}), begin.hours}}
	}
	var list []path
	for next, r := range s.Rooms {
		met := next == at || slices.ContainsFunc(begin.stays, func(x api.VtStay) bool { return x.Room == next })
		if met || base == api.FmNitrate && !r.Allows || len(begin.stays) > 3 {
			continue
		}
		if hours, after := slowWait(s, temp, at, next); hours >= 0 {
			longer := path{append(slices.Clone(begin.stays), api.VtStay{Room: at, Hours: hours}), begin.hours + hours}
			list = append(list, slowPaths(s, base, after, longer, next, to)...)
		}
	}
	return list
}

// P3.3: how a can warms and cools, and what is wrong first.
func TestWarm(t *testing.T) {
	for i, c := range []struct {
		temp        api.Span
		room, hours int
		want        api.Span
		e           api.Errno
	}{
		{span(20, 40), 1, 0, span(20, 40), api.OK},
		{span(20, 40), 1, 1, span(36, 64), api.OK},
		{span(20, 40), 1, 2, span(48, 81), api.OK},
		{span(20, 40), 1, 10, span(89, 119), api.OK},
		{span(20, 40), 0, 2400, span(20, 40), api.OK},
		// It cools by 30 per cent of 200 and by 20 per cent of 180.
		{span(220, 220), 0, 1, span(160, 184), api.OK},
		{span(220, 220), 0, 2, span(118, 156), api.OK},
		{span(25, 35), 0, 1, span(23, 37), api.OK},
		{span(10, 50), 0, 1, span(12, 48), api.OK},
		// Below 0: 20 per cent of 99 is 19.8, 30 per cent of 119 is 35.7.
		{span(-79, -79), 0, 1, span(-60, -43), api.OK},
		// 20 per cent of 4 is nothing, rounded towards the room, and 30 per cent of 1 is all of it, away from the room.
		{span(16, 44), 0, 1, span(16, 44), api.OK},
		{span(21, 39), 0, 1, span(20, 40), api.OK},
		{span(600, 600), 0, 2400, span(20, 44), api.OK},
		{span(-300, -300), 0, 2400, span(16, 40), api.OK},
		{span(20, 40), 1, -1, api.Span{}, api.ErrRange},
		{span(20, 40), 1, 2401, api.Span{}, api.ErrRange},
		{span(20, 40), 3, -1, api.Span{}, api.ErrNone},
		{span(20, 40), -1, 1, api.Span{}, api.ErrNone},
		{span(41, 40), 3, -1, api.Span{}, api.ErrArg},
		{span(41, -301), 3, -1, api.Span{}, api.ErrRange},
		{span(20, 601), 0, 0, api.Span{}, api.ErrRange},
	} {
		if x, e := Warm(example(), c.temp, c.room, c.hours); x != c.want || e != c.e {
			t.Errorf("%d: Warm = %v, %d; want %v, %d", i, x, e, c.want, c.e)
		}
	}
}

// P3.3: at the greatest and the least rate.
func TestWarmRates(t *testing.T) {
	s := example()
	s.Rate = span(100, 100)
	if x, e := Warm(s, span(-300, 600), 1, 1); x != span(100, 120) || e != api.OK {
		t.Errorf("Warm = %v, %d", x, e)
	}
	s.Rate = span(1, 1)
	if x, e := Warm(s, span(1, 219), 1, 1); x != span(1, 219) || e != api.OK {
		t.Errorf("Warm = %v, %d", x, e)
	}
	if x, e := Warm(s, span(0, 220), 1, 1); x != span(1, 219) || e != api.OK {
		t.Errorf("Warm = %v, %d", x, e)
	}
	if x, e := Warm(s, span(101, 119), 1, 1); x != span(100, 120) || e != api.OK {
		t.Errorf("Warm = %v, %d", x, e)
	}
}

// P3.3: hour by hour in any rooms, from any temperature.
func TestWarmOfAny(t *testing.T) {
	d := dice(4)
	for range 500 {
		s := stocked(d)
		room, temp := d.IntN(len(s.Rooms)), anySpan(d, api.MinTemp, api.MaxTemp)
		want := temp
		for hours := range 40 {
			if x, e := Warm(s, temp, room, hours); x != want || e != api.OK {
				t.Fatalf("Warm of %+v, %v, %d, %d = %v, %d; want %v", s, temp, room, hours, x, e, want)
			}
			want = slowWarmer(s.Rate, want, s.Rooms[room].Temp)
		}
	}
}

// P3.4: how long a can waits, and what is wrong first.
func TestWait(t *testing.T) {
	for i, c := range []struct {
		temp              api.Span
		room, next, hours int
		after             api.Span
		e                 api.Errno
	}{
		{span(20, 40), 0, 1, 0, span(20, 40), api.OK},
		{span(20, 40), 1, 2, 10, span(89, 119), api.OK},
		{span(20, 40), 0, 2, 0, api.Span{}, api.ErrDown},
		{span(89, 300), 0, 2, 0, span(89, 300), api.OK},
		// It has 88 too little, and cools in the cold room; in the next one itself it warms.
		{span(88, 88), 0, 2, 0, api.Span{}, api.ErrDown},
		{span(88, 88), 2, 2, 1, span(110, 128), api.OK},
		{span(-300, 600), 2, 2, 7, span(94, 301), api.OK},
		{span(0, 0), 3, 0, 0, api.Span{}, api.ErrNone},
		{span(0, 0), 0, 3, 0, api.Span{}, api.ErrNone},
		{span(0, 0), -1, 0, 0, api.Span{}, api.ErrNone},
		{span(0, 0), 0, -1, 0, api.Span{}, api.ErrNone},
		{span(1, 0), 0, 3, 0, api.Span{}, api.ErrArg},
		{span(1, 601), 0, 3, 0, api.Span{}, api.ErrRange},
	} {
		if n, x, e := Wait(example(), c.temp, c.room, c.next); n != c.hours || x != c.after || e != c.e {
			t.Errorf("%d: Wait = %d, %v, %d; want %d, %v, %d", i, n, x, e, c.hours, c.after, c.e)
		}
	}
}

// P3.4: any rooms and temperatures.
func TestWaitOfAny(t *testing.T) {
	d := dice(5)
	none, some, long := 0, 0, 0
	for range 2000 {
		s := stocked(d)
		s.Rate.Lo = min(s.Rate.Lo, 1+d.IntN(20))
		room, next, temp := d.IntN(len(s.Rooms)), d.IntN(len(s.Rooms)), anyTemp(d)
		hours, after := slowWait(s, temp, room, next)
		wait, e := hours, api.OK
		switch {
		case hours < 0:
			none, wait, e = none+1, 0, api.ErrDown
		case hours > 0:
			some++
		}
		if hours > 20 {
			long++
		}
		if n, x, f := Wait(s, temp, room, next); n != wait || x != after || f != e {
			t.Fatalf("Wait of %+v, %v, %d, %d = %d, %v, %d; want %d, %v, %d", s, temp, room, next, n, x, f, wait, after, e)
		}
	}
	if none < 100 || some < 100 || long < 5 {
		t.Errorf("for ever, for some hours, for many: %d, %d, %d", none, some, long)
	}
}

// stairs is a site of rooms, each of which is 20 warmer than the one before it, and has a dew point that is just the temperature of that one; cans have the temperature of a room after an hour.
func stairs(t *testing.T, rooms int) api.VtSite {
	s := api.VtSite{Rate: span(100, 100)}
	for i := range rooms {
		damp := 0
		for dew, _ := Dew(20*i, damp); dew < 20*(i-1); dew, _ = Dew(20*i, damp) {
			damp++
		}
		if dew, _ := Dew(20*i, damp); dew != 20*(i-1) {
			t.Fatalf("dew point of room %d: %d", i, dew)
		}
		s.Rooms = append(s.Rooms, api.VtRoom{Name: "stair-" + string(rune('a'+i)), Temp: span(20*i, 20*i), Damp: span(damp, damp), Allows: true})
	}
	return s
}

// P3.5: a way goes through three rooms between, and not through four.
func TestPathThroughThree(t *testing.T) {
	s := stairs(t, 6)
	stays, hours, e := Path(s, api.FmNitrate, span(0, 0), 0, 4)
	if !slices.Equal(stays, []api.VtStay{{Room: 0}, {Room: 1, Hours: 1}, {Room: 2, Hours: 1}, {Room: 3, Hours: 1}, {Room: 4}}) || hours != 3 || e != api.OK {
		t.Errorf("Path = %v, %d, %d", stays, hours, e)
	}
	if stays, hours, e := Path(s, api.FmNitrate, span(0, 0), 0, 5); stays != nil || hours != 0 || e != api.ErrDown {
		t.Errorf("Path = %v, %d, %d", stays, hours, e)
	}
	if stays, hours, e := Path(s, api.FmNitrate, span(0, 0), 1, 5); len(stays) != 5 || hours != 4 || e != api.OK {
		t.Errorf("Path = %v, %d, %d", stays, hours, e)
	}
}

// P3.5: the best way, and what is wrong first.
func TestPath(t *testing.T) {
	stay := func(room, hours int) api.VtStay { return api.VtStay{Room: room, Hours: hours} }
	lobby := []api.VtStay{stay(0, 0), stay(1, 10), stay(2, 0)}
	direct := []api.VtStay{stay(0, 0), stay(2, 0)}
	none := func(s *api.VtSite) {}
	more := func(r api.VtRoom) func(s *api.VtSite) {
		return func(s *api.VtSite) { s.Rooms = append(s.Rooms, r) }
	}
	dry := api.VtRoom{Name: "dry", Temp: span(180, 180), Allows: true}
	second := example().Rooms[1]
	second.Name = "second"
	for i, c := range []struct {
		change   func(s *api.VtSite)
		base     int
		temp     api.Span
		from, to int
		want     []api.VtStay
		hours    int
		e        api.Errno
	}{
		{none, api.FmNitrate, span(20, 40), 0, 2, lobby, 10, api.OK},
		{none, api.FmPolyester, span(20, 40), 0, 2, lobby, 10, api.OK},
		{none, api.FmNitrate, span(20, 40), 2, 0, []api.VtStay{stay(2, 0), stay(0, 0)}, 0, api.OK},
		{none, api.FmNitrate, span(20, 40), 2, 2, []api.VtStay{stay(2, 0)}, 0, api.OK},
		// A can that would sweat at once is there already.
		{none, api.FmAcetate, span(-300, -300), 2, 2, []api.VtStay{stay(2, 0)}, 0, api.OK},
		{none, api.FmAcetate, span(89, 89), 0, 2, direct, 0, api.OK},
		// For nitrate the rooms behind the first one have to allow it; not so for others.
		{func(s *api.VtSite) { s.Rooms[1].Allows = false }, api.FmNitrate, span(20, 40), 0, 2, nil, 0, api.ErrDown},
		{func(s *api.VtSite) { s.Rooms[1].Allows = false }, api.FmAcetate, span(20, 40), 0, 2, lobby, 10, api.OK},
		{func(s *api.VtSite) { s.Rooms[2].Allows = false }, api.FmNitrate, span(89, 89), 0, 2, nil, 0, api.ErrDown},
		{func(s *api.VtSite) { s.Rooms[2].Allows = false }, api.FmPolyester, span(89, 89), 0, 2, direct, 0, api.OK},
		{func(s *api.VtSite) { s.Rooms[0].Allows, s.Cans = false, nil }, api.FmNitrate, span(89, 89), 0, 2, direct, 0, api.OK},
		{func(s *api.VtSite) { s.Rooms[0].Allows, s.Cans = false, nil }, api.FmNitrate, span(89, 89), 0, 0, []api.VtStay{stay(0, 0)}, 0, api.OK},
		// A way need not keep distances, or amounts.
		{func(s *api.VtSite) { s.Rooms[1].Most, s.Rooms[2].Most = 0, 0 }, api.FmNitrate, span(20, 40), 0, 2, lobby, 10, api.OK},
		// A dry warm room is faster; of two equal rooms the first one is taken; no room more than needed is gone through.
		{more(dry), api.FmAcetate, span(20, 40), 0, 2, []api.VtStay{stay(0, 0), stay(3, 3), stay(2, 0)}, 3, api.OK},
		{more(second), api.FmAcetate, span(20, 40), 0, 2, lobby, 10, api.OK},
		{more(second), api.FmAcetate, span(20, 40), 0, 3, []api.VtStay{stay(0, 0), stay(3, 0)}, 0, api.OK},
		{none, 0, span(5, 601), 0, 3, nil, 0, api.ErrArg},
		{none, 4, span(5, 4), 0, 3, nil, 0, api.ErrArg},
		{none, api.FmNitrate, span(5, 601), 0, 3, nil, 0, api.ErrRange},
		{none, api.FmNitrate, span(5, 4), 0, 3, nil, 0, api.ErrArg},
		{none, api.FmNitrate, span(5, 5), 0, 3, nil, 0, api.ErrNone},
		{none, api.FmNitrate, span(5, 5), 3, 0, nil, 0, api.ErrNone},
		{none, api.FmNitrate, span(5, 5), -1, -1, nil, 0, api.ErrNone},
	} {
		s := example()
		c.change(&s)
		if l, n, e := Path(s, c.base, c.temp, c.from, c.to); !slices.Equal(l, c.want) || n != c.hours || e != c.e {
			t.Errorf("%d: Path = %v, %d, %d; want %v, %d, %d", i, l, n, e, c.want, c.hours, c.e)
		}
	}
}

// damped is some site whose rooms are so damp that a can goes through several of them, often with many ways that take as long as others.
func damped(d *rand.Rand) api.VtSite {
	s := anySite(d, from(d, 2, 9))
	alike := d.IntN(2) == 0
	if alike {
		s.Rate = span(100, 100)
	}
	for i := range s.Rooms {
		r := &s.Rooms[i]
		r.Damp = span(0, from(d, 600, 900))
		if alike {
			warm := 20 * d.IntN(5)
			r.Temp, r.Damp.Hi = span(warm, warm), from(d, 800, 860)
		}
	}
	return s
}

// journey returns two rooms of a site, often one of the coldest and one of the warmest.
func journey(d *rand.Rand, s api.VtSite) (begin, to int) {
	if d.IntN(2) == 0 {
		return d.IntN(len(s.Rooms)), d.IntN(len(s.Rooms))
	}
	for i, r := range s.Rooms {
		if r.Temp.Hi < s.Rooms[begin].Temp.Hi {
			begin = i
		}
		if r.Temp.Hi > s.Rooms[to].Temp.Hi {
			to = i
		}
	}
	return begin, to
}

// P3.5 and P3.13: the best of all ways that there are, in any sites.
func TestPathOfAny(t *testing.T) {
	d := dice(13)
	lengths := map[int]int{}
	equal := 0
	for range 3000 {
		s := damped(d)
		begin, to := journey(d, s)
		base := from(d, 1, 3)
		temp := s.Rooms[begin].Temp
		all := slowPaths(s, base, temp, path{}, begin, to)
		slices.SortFunc(all, better)
		stays, hours, e := Path(s, base, temp, begin, to)
		if len(all) == 0 {
			if stays != nil || hours != 0 || e != api.ErrDown {
				t.Fatalf("Path of %+v, %d, %d, %d = %v, %d, %d", s, base, begin, to, stays, hours, e)
			}
			continue
		}
		if !slices.Equal(stays, all[0].stays) || hours != all[0].hours || e != api.OK {
			t.Fatalf("Path of %+v, %d, %d, %d = %v, %d, %d; want %v", s, base, begin, to, stays, hours, e, all[0])
		}
		lengths[len(stays)]++
		if len(all) > 1 && all[1].hours == hours && len(all[1].stays) == len(stays) {
			equal++
		}
	}
	for n := 1; n <= 5; n++ {
		if lengths[n] < 10 {
			t.Errorf("so many ways have so many rooms: %v", lengths)
		}
	}
	if equal < 50 {
		t.Errorf("%d ways are as good as others", equal)
	}
}

// P3.13: moves of the best way, one after each wait, are kept where nothing but sweat matters.
func TestPathCanBeMoved(t *testing.T) {
	d := dice(14)
	moved := 0
	for range 3000 {
		s := damped(d)
		begin, to := journey(d, s)
		s.Cans = []api.VtCan{{Name: "moth", Base: api.FmAcetate, Frames: 1, Room: begin}}
		stays, _, e := Path(s, api.FmAcetate, s.Rooms[begin].Temp, begin, to)
		if e != api.OK {
			continue
		}
		var moves []api.VtMove
		hour := 0
		for i := 1; i < len(stays); i++ {
			hour += stays[i-1].Hours
			moves = append(moves, api.VtMove{Hour: hour, To: stays[i].Room})
		}
		if kept, _, e := Play(s, moves); len(kept) != len(moves) || e != api.OK {
			t.Fatalf("Play of %+v, %v = %v, %d", s, moves, kept, e)
		}
		moved += len(moves)
	}
	if moved < 1000 {
		t.Errorf("only %d moves", moved)
	}
}
