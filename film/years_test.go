package film

import (
	"math/rand/v2"
	"reflect"
	"slices"
	"testing"

	"telecine/api"
)

// sameRolls reports whether two lists of rolls are the same, with nil years the same as none.
func sameRolls(a, b []api.FmRoll) bool {
	return slices.EqualFunc(a, b, func(x, y api.FmRoll) bool { return x.Roll == y.Roll && slices.Equal(x.Years, y.Years) })
}

// P1.5: the years of rolls, and of printing.
func TestYears(t *testing.T) {
	for i, c := range []struct {
		lo, hi, keep int
		symbols      []api.FmSymbol
		rolls        []api.FmRoll
		printed      []int
	}{
		{1925, 1940, 3, nana().Symbols, []api.FmRoll{{Roll: 4, Years: []int{1928}}, {Roll: 7, Years: []int{1926}}}, []int{1928, 1929}},
		{1925, 1928, 50, nil, nil, []int{1925, 1926, 1927, 1928}},
		// A roll of the last year, and one of the first year less Keep, can be in the reel; a year more or less cannot.
		{1926, 1930, 2, []api.FmSymbol{{Roll: 1, Code: 14}}, []api.FmRoll{{Roll: 1, Years: []int{1930}}}, []int{1930}},
		{1926, 1930, 2, []api.FmSymbol{{Roll: 1, Code: 15}}, []api.FmRoll{{Roll: 1}}, nil},
		{1926, 1930, 2, []api.FmSymbol{{Roll: 1, Code: 8}}, []api.FmRoll{{Roll: 1, Years: []int{1924}}}, []int{1926}},
		{1926, 1930, 2, []api.FmSymbol{{Roll: 1, Code: 7}}, []api.FmRoll{{Roll: 1}}, nil},
		// There are several cycles, also before 1916, but nothing before 1890.
		{1890, 1960, 0, []api.FmSymbol{{Roll: 1, Code: 14}}, []api.FmRoll{{Roll: 1, Years: []int{1890, 1910, 1930, 1950}}}, []int{1890, 1910, 1930, 1950}},
		{1890, 1910, 50, []api.FmSymbol{{Roll: 1, Code: 13}}, []api.FmRoll{{Roll: 1, Years: []int{1909}}}, []int{1909, 1910}},
		{2095, 2100, 0, []api.FmSymbol{{Roll: 1, Code: 4}}, []api.FmRoll{{Roll: 1, Years: []int{2100}}}, []int{2100}},
		// Rolls ascend, and each stands once, with what all of its symbols allow.
		{1916, 1940, 1, []api.FmSymbol{{Roll: 9, Code: 1}, {Roll: 0, Code: 0}, {Roll: 9, Code: 1}}, []api.FmRoll{{Roll: 0, Years: []int{1916, 1936}}, {Roll: 9, Years: []int{1917, 1937}}}, []int{1917, 1937}},
		{1916, 1940, 1, []api.FmSymbol{{Roll: 9, Code: 1}, {Roll: 0, Code: 0}, {Roll: 9, Code: 2}}, []api.FmRoll{{Roll: 0, Years: []int{1916, 1936}}, {Roll: 9}}, nil},
		// Two rolls that are further from each other than stock is kept.
		{1920, 1930, 2, []api.FmSymbol{{Roll: 1, Code: 5}, {Roll: 2, Code: 8}}, []api.FmRoll{{Roll: 1, Years: []int{1921}}, {Roll: 2, Years: []int{1924}}}, nil},
		{1920, 1930, 3, []api.FmSymbol{{Roll: 1, Code: 5}, {Roll: 2, Code: 8}}, []api.FmRoll{{Roll: 1, Years: []int{1921}}, {Roll: 2, Years: []int{1924}}}, []int{1924}},
	} {
		r := nana()
		r.Years, r.Keep, r.Symbols = api.Span{Lo: c.lo, Hi: c.hi}, c.keep, c.symbols
		rolls, printed, e := Years(r)
		if !sameRolls(rolls, c.rolls) || !slices.Equal(printed, c.printed) || e != api.OK {
			t.Errorf("%d: Years = %v, %v, %d", i, rolls, printed, e)
		}
	}
}

// slowYears returns what Years has to return, by trying each year with each other one.
func slowYears(r api.FmReel) (rolls []api.FmRoll, printed []int) {
	for roll := range api.MaxFmRoll + 1 {
		has := slices.ContainsFunc(r.Symbols, func(s api.FmSymbol) bool { return s.Roll == roll })
		if !has {
			continue
		}
		var years []int
		for year := api.MinFmYear; year <= api.MaxFmYear; year++ {
			fits := year >= r.Years.Lo-r.Keep && year <= r.Years.Hi
			for _, s := range r.Symbols {
				fits = fits && (s.Roll != roll || (year+10*api.FmCycle-api.FmBegin-s.Code)%api.FmCycle == 0)
			}
			if fits {
				years = append(years, year)
			}
		}
		rolls = append(rolls, api.FmRoll{Roll: roll, Years: years})
	}
	for year := r.Years.Lo; year <= r.Years.Hi; year++ {
		fits := true
		for _, roll := range rolls {
			fits = fits && slices.ContainsFunc(roll.Years, func(y int) bool { return y <= year && y >= year-r.Keep })
		}
		if fits {
			printed = append(printed, year)
		}
	}
	return rolls, printed
}

// P1.5: the years of many reels, against those that are found by trying.
func TestYearsOfManyReels(t *testing.T) {
	d := dice(5)
	for range 3000 {
		r := anyReel(d)
		rolls, printed, e := Years(r)
		wantRolls, want := slowYears(r)
		if !sameRolls(rolls, wantRolls) || !slices.Equal(printed, want) || e != api.OK {
			t.Fatalf("Years of %+v = %v, %v, %d; want %v, %v", r, rolls, printed, e, wantRolls, want)
		}
	}
}

// printedReel returns a reel that was printed in a year, from rolls that were made in some years, with symbols that tell them.
func printedReel(d *rand.Rand) (r api.FmReel, year int, made map[int]int) {
	r = anyReel(d)
	year = from(d, r.Years.Lo, r.Years.Hi)
	r.Symbols, made = nil, map[int]int{}
	for range d.IntN(api.MaxFmSymbols + 1) {
		roll := d.IntN(10)
		if _, ok := made[roll]; !ok {
			made[roll] = max(api.MinFmYear, year-from(d, 0, r.Keep))
		}
		code := (made[roll] + 10*api.FmCycle - api.FmBegin) % api.FmCycle
		r.Symbols = append(r.Symbols, api.FmSymbol{Roll: roll, Code: code})
	}
	return r, year, made
}

// P1.9: the years in which rolls were made, and the reel was printed, are among those that Years returns.
func TestYearsAreTrue(t *testing.T) {
	d := dice(9)
	for range 3000 {
		r, year, made := printedReel(d)
		rolls, printed, e := Years(r)
		if e != api.OK || !slices.Contains(printed, year) || len(rolls) != len(made) {
			t.Fatalf("printed in %d: Years of %+v = %v, %v, %d", year, r, rolls, printed, e)
		}
		for _, roll := range rolls {
			if !slices.Contains(roll.Years, made[roll.Roll]) {
				t.Fatalf("roll %d was made in %d: Years of %+v = %v", roll.Roll, made[roll.Roll], r, rolls)
			}
		}
	}
}

// P1.11: with a further symbol no years of printing become possible.
func TestSymbolsNarrow(t *testing.T) {
	d := dice(11)
	for range 3000 {
		r := anyReel(d)
		_, before, _ := Years(r)
		r.Symbols = append(r.Symbols, api.FmSymbol{Roll: d.IntN(4), Code: d.IntN(api.FmCycle)})
		_, after, e := Years(r)
		for _, year := range after {
			if e != api.OK || !slices.Contains(before, year) {
				t.Fatalf("%d became possible: %+v, %d", year, r, e)
			}
		}
	}
}

// P1.14: the lists of years share no memory with each other, and none with those of another call.
func TestYearsAreNewMemory(t *testing.T) {
	r := nana()
	r.Years, r.Symbols = api.Span{Lo: 1916, Hi: 1960}, []api.FmSymbol{{Roll: 1, Code: 3}, {Roll: 2, Code: 3}}
	rolls, printed, _ := Years(r)
	wantRolls, want, _ := Years(r)
	clear(append(rolls[0].Years, 1))
	if !slices.Equal(rolls[1].Years, wantRolls[1].Years) || !slices.Equal(printed, want) {
		t.Error("lists of years share memory")
	}
	clear(rolls)
	clear(printed)
	if again, years, _ := Years(r); !reflect.DeepEqual(again, wantRolls) || !slices.Equal(years, want) {
		t.Error("Years returns its results twice")
	}
}
