package vault

import (
	"math/rand/v2"
	"slices"
	"strconv"
	"testing"

	"telecine/api"
)

// span returns all integers from lo to hi.
func span(lo, hi int) api.Span { return api.Span{Lo: lo, Hi: hi} }

// example is the site S of the chapter's examples.
func example() api.VtSite {
	return api.VtSite{
		Rooms: []api.VtRoom{
			{Name: "cold", Temp: span(20, 40), Damp: span(300, 400), Allows: true, Most: 3000},
			{Name: "lobby", Temp: span(100, 120), Damp: span(350, 450), Allows: true, Most: 2000, X: 30},
			{Name: "bench", Temp: span(200, 220), Damp: span(400, 450), People: true, Allows: true, Most: 1000, X: 30, Y: 40},
		},
		Cans:  []api.VtCan{{Name: "nana-2", Base: api.FmNitrate, Frames: 900}, {Name: "golem", Base: api.FmNitrate, Frames: 1400}},
		Rate:  span(20, 30),
		Steps: []api.VtStep{{Over: 0, Metres: 10}, {Over: 1500, Metres: 45}},
	}
}

// copied returns a site that shares no memory with s.
func copied(s api.VtSite) api.VtSite {
	s.Rooms, s.Cans, s.Steps = slices.Clone(s.Rooms), slices.Clone(s.Cans), slices.Clone(s.Steps)
	return s
}

// dice is a source of numbers that are the same in each run.
func dice(seed uint64) *rand.Rand { return rand.New(rand.NewPCG(seed, 1895)) }

// from returns a number from lo to hi.
func from(d *rand.Rand, lo, hi int) int { return lo + d.IntN(hi-lo+1) }

// anySpan returns some span of numbers from lo to hi.
func anySpan(d *rand.Rand, lo, hi int) api.Span {
	a, b := from(d, lo, hi), from(d, lo, hi)
	return span(min(a, b), max(a, b))
}

// anyTemp returns some temperature that is a narrow span.
func anyTemp(d *rand.Rand) api.Span {
	lo := from(d, -100, 300)
	return span(lo, lo+d.IntN(30))
}

// anyRoom returns some room with this name, and so small amounts and distances that others matter.
func anyRoom(d *rand.Rand, name string) api.VtRoom {
	return api.VtRoom{
		Name: name, Temp: anyTemp(d), Damp: anySpan(d, 0, []int{300, 600, api.All}[d.IntN(3)]),
		People: d.IntN(4) == 0, Allows: d.IntN(4) > 0, Most: d.IntN(4000), X: d.IntN(60), Y: d.IntN(60),
	}
}

// anySite returns some site with so many rooms, without cans and steps.
func anySite(d *rand.Rand, rooms int) api.VtSite {
	s := api.VtSite{Rate: anySpan(d, 1, 100)}
	for i := range rooms {
		s.Rooms = append(s.Rooms, anyRoom(d, "room-"+strconv.Itoa(i)))
	}
	return s
}

// stock puts some cans of all bases into rooms of a site, and adds some steps, with metres of at least a number.
func stock(d *rand.Rand, s *api.VtSite, least int, room func() int) {
	for i := range d.IntN(8) {
		base := max(api.FmNitrate, from(d, -2, api.FmPolyester)) // mostly nitrate
		s.Cans = append(s.Cans, api.VtCan{Name: "can-" + strconv.Itoa(i), Base: base, Frames: from(d, 1, 1500), Room: room()})
	}
	over, metres := d.IntN(500), least+d.IntN(20)
	for range d.IntN(4) {
		s.Steps = append(s.Steps, api.VtStep{Over: over, Metres: metres})
		over, metres = over+from(d, 1, 1000), metres+d.IntN(20)
	}
}

// stocked is some site without an error, with cans in all of its rooms.
func stocked(d *rand.Rand) api.VtSite {
	for {
		s := anySite(d, from(d, 1, 6))
		stock(d, &s, 0, func() int { return d.IntN(len(s.Rooms)) })
		if _, _, e := Check(s); e == api.OK {
			return s
		}
	}
}

// crowded is some site without an error whose cans are in a room far away at first, so that the others can be near to each other.
func crowded(d *rand.Rand) api.VtSite {
	s := anySite(d, from(d, 2, 7))
	s.Rooms[0].Allows, s.Rooms[0].Most, s.Rooms[0].X, s.Rooms[0].Y = true, api.MaxVtAmount, api.MaxVtMetres, api.MaxVtMetres
	stock(d, &s, 15, func() int { return 0 })
	return s
}

// vapourOf is the chapter's table.
var vapourOf = map[int]int{
	-300: 450, -250: 700, -200: 1070, -150: 1600, -100: 2360, -50: 3410, 0: 4850, 50: 6800, 100: 9400, 150: 12830, 200: 17300,
	250: 23050, 300: 30400, 350: 39600, 400: 51200, 450: 65400, 500: 83000, 550: 104300, 600: 130200,
}

// slowVapour returns how much vapour saturated air holds, by the chapter's table.
func slowVapour(temp int) int {
	lower := -300
	for lower+50 <= temp {
		lower += 50
	}
	return vapourOf[lower] + (vapourOf[lower+50]-vapourOf[lower])*(temp-lower)/50
}

// slowSweats reports whether a can of a temperature sweats in air of another one and a damp.
func slowSweats(temp, air, damp int) bool { return damp*slowVapour(air) > 1000*slowVapour(temp) }

// P3.2: the amounts of the table, and those between.
func TestVapour(t *testing.T) {
	for temp := -300; temp <= 600; temp++ {
		if n, e := Vapour(temp); n != slowVapour(temp) || e != api.OK {
			t.Errorf("Vapour of %d = %d, %d; want %d", temp, n, e, slowVapour(temp))
		}
	}
	for temp, want := range map[int]int{0: 4850, 20: 5630, -275: 575, 600: 130200, -300: 450, -299: 455, -251: 695, -250: 700, -1: 4821, 1: 4889, 599: 129682} {
		if n, e := Vapour(temp); n != want || e != api.OK {
			t.Errorf("Vapour of %d = %d, %d; want %d", temp, n, e, want)
		}
	}
	for _, temp := range []int{-1 << 63, -301, 601, 1<<63 - 1} {
		if n, e := Vapour(temp); n != 0 || e != api.ErrRange {
			t.Errorf("Vapour of %d = %d, %d", temp, n, e)
		}
	}
}

// P3.2: dew points, at the limits and beyond.
func TestDew(t *testing.T) {
	for i, c := range []struct {
		temp, damp, want int
		e                api.Errno
	}{
		{210, 500, 97, api.OK},
		{40, 400, -90, api.OK},
		{220, 450, 89, api.OK},
		{0, 1000, 0, api.OK},
		{600, 1000, 600, api.OK},
		{600, 999, 600, api.OK},
		{600, 995, 599, api.OK},
		{600, 0, -300, api.OK},
		{-300, 1000, -300, api.OK},
		{-300, 0, -300, api.OK},
		// Air of 0 has 4850: 92 per mille of it are 446, and 93 are 451, more than the 450 of saturated air of -300.
		{0, 92, -300, api.OK},
		{0, 93, -299, api.OK},
		{-301, 500, 0, api.ErrRange},
		{601, 500, 0, api.ErrRange},
		{0, -1, 0, api.ErrRange},
		{0, 1001, 0, api.ErrRange},
		{-301, 1001, 0, api.ErrRange},
	} {
		if n, e := Dew(c.temp, c.damp); n != c.want || e != c.e {
			t.Errorf("%d: Dew = %d, %d; want %d, %d", i, n, e, c.want, c.e)
		}
	}
}

// P3.2: the dew point is the least temperature at which the vapour is enough.
func TestDewIsTheLeast(t *testing.T) {
	d := dice(2)
	for range 3000 {
		temp, damp := from(d, -300, 600), from(d, 0, 1000)
		want := -300
		for slowSweats(want, temp, damp) {
			want++
		}
		if n, e := Dew(temp, damp); n != want || e != api.OK {
			t.Fatalf("Dew of %d, %d = %d, %d; want %d", temp, damp, n, e, want)
		}
	}
}

// P3.12: the dew point is at most the temperature, and not less with more damp or a greater temperature.
func TestDewOfMore(t *testing.T) {
	dew := func(temp, damp int) int {
		n, e := Dew(temp, damp)
		if e != api.OK {
			t.Fatalf("Dew of %d, %d: %d", temp, damp, e)
		}
		return n
	}
	for temp := -300; temp <= 600; temp += 3 {
		for damp := 0; damp <= 1000; damp += 7 {
			n := dew(temp, damp)
			if n > temp || dew(min(temp+1, 600), damp) < n || dew(temp, min(damp+1, 1000)) < n {
				t.Fatalf("the dew point of %d, %d is %d", temp, damp, n)
			}
		}
	}
}

// P3.12: a can sweats just if its temperature is below the dew point.
func TestSweatIsDew(t *testing.T) {
	d := dice(12)
	s := example()
	for range 3000 {
		air, damp := from(d, -300, 600), from(d, 0, 1000)
		s.Rooms[1].Temp, s.Rooms[1].Damp = span(air, air), span(damp, damp)
		dew, _ := Dew(air, damp)
		for temp := max(dew-2, -300); temp <= min(dew+2, 600); temp++ {
			if sure, may, e := Sweats(s, span(temp, temp), 1); sure != (temp < dew) || may != sure || e != api.OK {
				t.Fatalf("Sweats of %d in %d, %d with the dew point %d = %t, %t, %d", temp, air, damp, dew, sure, may, e)
			}
		}
	}
}

// P3.3: whether a can sweats, at the dew points of a room, and what is wrong first.
func TestSweats(t *testing.T) {
	for i, c := range []struct {
		temp      api.Span
		room      int
		sure, may bool
		e         api.Errno
	}{
		{span(20, 40), 2, true, true, api.OK},
		{span(20, 40), 1, false, false, api.OK},
		{span(60, 110), 2, false, true, api.OK},
		// The dew point of 220 and 450 is 89, that of 200 and 400 is 53.
		{span(89, 89), 2, false, false, api.OK},
		{span(89, 600), 2, false, false, api.OK},
		{span(88, 600), 2, false, true, api.OK},
		{span(-300, 53), 2, false, true, api.OK},
		{span(-300, 52), 2, true, true, api.OK},
		{span(52, 52), 2, true, true, api.OK},
		{span(600, 600), 0, false, false, api.OK},
		{span(-300, -300), 0, true, true, api.OK},
		{span(-301, 0), 0, false, false, api.ErrRange},
		{span(0, 601), 0, false, false, api.ErrRange},
		{span(601, 4), 9, false, false, api.ErrRange},
		{span(5, 4), 9, false, false, api.ErrArg},
		{span(5, 5), 3, false, false, api.ErrNone},
		{span(5, 5), -1, false, false, api.ErrNone},
	} {
		if sure, may, e := Sweats(example(), c.temp, c.room); sure != c.sure || may != c.may || e != c.e {
			t.Errorf("%d: Sweats = %t, %t, %d", i, sure, may, e)
		}
	}
}

// P3.3: a can surely sweats if it does so with each of its temperatures in all air of the room, and may if it does so with one.
func TestSweatsOfSpans(t *testing.T) {
	d := dice(3)
	s := example()
	seen := [2][2]int{}
	for range 2000 {
		air, damp, temp := anyTemp(d), from(d, 0, 990), anyTemp(d)
		s.Rooms[1].Temp, s.Rooms[1].Damp = air, span(damp, damp+10)
		sure, may, e := Sweats(s, temp, 1)
		all, some := 1, 0
		for own := temp.Lo; own <= temp.Hi; own++ {
			for a := air.Lo; a <= air.Hi; a++ {
				for _, h := range []int{damp, damp + 5, damp + 10} {
					if slowSweats(own, a, h) {
						some = 1
					} else {
						all = 0
					}
				}
			}
		}
		if sure != (all == 1) || may != (some == 1) || e != api.OK {
			t.Fatalf("Sweats of %v in %v, %d = %t, %t, %d", temp, air, damp, sure, may, e)
		}
		seen[all][some]++
	}
	if seen[0][0] < 100 || seen[0][1] < 100 || seen[1][1] < 100 {
		t.Errorf("neither, perhaps, surely: %v", seen)
	}
}
