package film

import (
	"maps"
	"slices"

	"telecine/api"
)

// Years returns the years in which each roll can have been made, and those in which the reel can have been printed.
func Years(r api.FmReel) (rolls []api.FmRoll, printed []int, e api.Errno) {
	if _, _, e := Check(r); e != api.OK {
		return nil, nil, e
	}
	possible := yearsOf(r.Years)
	for _, roll := range rollsOf(r.Symbols) {
		made := madeYears(r, roll)
		keepYears(possible, func(year int) bool {
			return slices.ContainsFunc(made, func(m int) bool { return within(m, year-r.Keep, year) })
		})
		rolls = append(rolls, api.FmRoll{Roll: roll, Years: made})
	}
	return rolls, ascending(possible), api.OK
}

// rollsOf returns the rolls that have a symbol, ascending.
func rollsOf(symbols []api.FmSymbol) []int {
	var rolls []int
	for _, s := range symbols {
		rolls = append(rolls, s.Roll)
	}
	slices.Sort(rolls)
	return slices.Compact(rolls)
}

// madeYears returns the years in which a roll of a reel can have been made, ascending.
func madeYears(r api.FmReel, roll int) []int {
	possible := yearsOf(api.Span{Lo: max(api.MinFmYear, r.Years.Lo-r.Keep), Hi: r.Years.Hi})
	for _, s := range r.Symbols {
		if s.Roll == roll {
			keepYears(possible, func(year int) bool { return (year-api.FmBegin-s.Code)%api.FmCycle == 0 })
		}
	}
	return ascending(possible)
}

// yearsOf returns the years of a span.
func yearsOf(s api.Span) map[int]bool {
	years := map[int]bool{}
	for year := s.Lo; year <= s.Hi; year++ {
		years[year] = true
	}
	return years
}

// keepYears deletes the years that are not possible.
func keepYears(years map[int]bool, possible func(year int) bool) {
	for year := range years {
		if !possible(year) {
			delete(years, year)
		}
	}
}

// ascending returns years in their order.
func ascending(years map[int]bool) []int { return slices.Sorted(maps.Keys(years)) }
