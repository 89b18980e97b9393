package restore

import (
	"iter"

	"telecine/api"
)

// Limits of what a step has.
const (
	tableBytes = api.SnWhite + 1   // one for each level
	farthest   = api.MaxSnSide - 1 // pixels of a shift, to each side
	lastGrain  = 1000              // the number of a pattern of grain
	coarsest   = 40                // levels by which grain changes a pixel
)

// spot is a place of a film: a frame, and in it the column and the row of a pixel.
type spot struct{ frame, x, y int }

// look is a step that is looked at, with the film as it was before it.
type look struct {
	api.ReStep
	old        []api.SnFrame
	wide, high int
}

// lookAt returns a step as it is looked at with a film without an error.
func lookAt(s api.ReStep, l []api.SnFrame) look {
	return look{ReStep: s, old: l, wide: l[0].Wide, high: l[0].High}
}

// check returns the error of the step.
func (s look) check() api.Errno {
	last := len(s.old) - 1
	switch {
	case !within(s.Kind, api.ReShift, api.ReLift):
		return api.ErrArg
	case !within(s.From, 0, last) || !within(s.Until, 0, last) || s.From > s.Until:
		return api.ErrRange
	case len(s.Keep) > api.MaxReBoxes:
		return api.ErrLong
	case !s.boxesFit() || !s.numbersFit():
		return api.ErrRange
	case s.Kind == api.ReTone && len(s.Table) != tableBytes || s.Kind != api.ReTone && len(s.Table) > 0:
		return api.ErrArg
	}
	return api.OK
}

// boxesFit reports whether all boxes are boxes of a frame.
func (s look) boxesFit() bool {
	for _, b := range s.Keep {
		columns := 0 <= b.Left && b.Left <= b.Right && b.Right < s.wide
		rows := 0 <= b.Top && b.Top <= b.Low && b.Low < s.high
		if !columns || !rows {
			return false
		}
	}
	return true
}

// numbersFit reports whether the numbers of the step are those that its kind can have.
func (s look) numbersFit() bool {
	a, b, c := s.ranges()
	if !within(s.A, a.Lo, a.Hi) || !within(s.B, b.Lo, b.Hi) || !within(s.C, c.Lo, c.Hi) {
		return false
	}
	// A scratch is mended by what stands beside it.
	return s.Kind != api.ReScratch || s.A <= s.B && s.B-s.A+1 < s.wide
}

// ranges returns from where to where the kind of the step lets its numbers be; a number that it does not name is 0.
func (s look) ranges() (a, b, c api.Span) {
	column, level := api.Span{Hi: s.wide - 1}, api.Span{Hi: api.SnWhite}
	switch s.Kind {
	case api.ReShift:
		reach := api.Span{Lo: -farthest, Hi: farthest}
		return reach, reach, level
	case api.ReScratch:
		return column, column, c
	case api.ReDust:
		return api.Span{Lo: 1, Hi: api.SnWhite}, level, c
	case api.ReGrain:
		return api.Span{Hi: lastGrain}, api.Span{Hi: coarsest}, c
	case api.ReLift:
		return api.Span{Lo: -api.SnWhite, Hi: api.SnWhite}, b, c
	}
	return a, b, c
}

// number returns the number of the pixel at a place.
func (s look) number(p spot) int { return p.y*s.wide + p.x }

// spotOf returns the place of a pixel of a frame.
func (s look) spotOf(frame, pixel int) spot { return spot{frame, pixel % s.wide, pixel / s.wide} }

// level returns the old pixel at a place of the film.
func (s look) level(p spot) int { return int(s.old[p.frame].Pixels[s.number(p)]) }

// find returns the old pixel at any place, and whether there is one.
func (s look) find(p spot) (level int, ok bool) {
	if !s.inFilm(p) {
		return 0, false
	}
	return s.level(p), true
}

// inFilm reports whether the film has a pixel at a place.
func (s look) inFilm(p spot) bool {
	return within(p.frame, 0, len(s.old)-1) && within(p.x, 0, s.wide-1) && within(p.y, 0, s.high-1)
}

// keeps reports whether a place is in one of the boxes.
func (s look) keeps(p spot) bool {
	for _, b := range s.Keep {
		if within(p.x, b.Left, b.Right) && within(p.y, b.Top, b.Low) {
			return true
		}
	}
	return false
}

// reaches reports whether the step makes a pixel anew.
func (s look) reaches(p spot) bool { return within(p.frame, s.From, s.Until) && !s.keeps(p) }

// spots yields the places of all pixels that the step makes anew, by frames, and then by numbers.
func (s look) spots() iter.Seq[spot] {
	return func(yield func(spot) bool) {
		for frame := s.From; frame <= s.Until; frame++ {
			for pixel := range s.wide * s.high {
				if p := s.spotOf(frame, pixel); s.reaches(p) && !yield(p) {
					return
				}
			}
		}
	}
}

// do returns the film behind the step, and its changes.
func (s look) do() (film []api.SnFrame, changes []api.ReChange) {
	film = copied(s.old)
	made := makers()[s.Kind]
	for p := range s.spots() {
		c := api.ReChange{Frame: p.frame, Pixel: s.number(p), Old: byte(s.level(p)), New: byte(made(s, p))}
		if c.Old != c.New {
			film[c.Frame].Pixels[c.Pixel] = c.New
			changes = append(changes, c)
		}
	}
	return film, changes
}

// makers returns, for each kind of step, what makes the new pixel at a place.
func makers() [api.ReLift + 1]func(look, spot) int {
	return [...]func(look, spot) int{
		api.ReShift:   look.shifted,
		api.ReTone:    look.toned,
		api.ReScratch: look.mended,
		api.ReDust:    look.dusted,
		api.ReGrain:   look.grained,
		api.ReLift:    look.lifted,
	}
}

// source returns the place from which a shift takes the pixel at p.
func (s look) source(p spot) spot { return spot{p.frame, p.x - s.A, p.y - s.B} }

func (s look) shifted(p spot) int {
	if level, ok := s.find(s.source(p)); ok {
		return level
	}
	return s.C
}

func (s look) toned(p spot) int { return int(s.Table[s.level(p)]) }

func (s look) mended(p spot) int {
	if !within(p.x, s.A, s.B) {
		return s.level(p)
	}
	left, isLeft := s.find(spot{p.frame, s.A - 1, p.y})
	right, isRight := s.find(spot{p.frame, s.B + 1, p.y})
	if !isLeft {
		left = right
	}
	if !isRight {
		right = left
	}
	return (left*(s.B+1-p.x) + right*(p.x+1-s.A)) / (s.B + 2 - s.A)
}

// apart returns by how much two levels differ.
func apart(a, b int) int { return max(a-b, b-a) }

func (s look) dusted(p spot) int {
	v := s.level(p)
	before, isBefore := s.find(spot{p.frame - 1, p.x, p.y})
	behind, isBehind := s.find(spot{p.frame + 1, p.x, p.y})
	if !isBefore || !isBehind || apart(before, behind) > s.B || apart(v, before) < s.A || apart(v, behind) < s.A {
		return v
	}
	return (before + behind) / 2
}

// held returns the level that is nearest to a number.
func held(n int) int { return min(max(n, 0), api.SnWhite) }

func (s look) grained(p spot) int {
	n := s.number(p)
	h := ((s.A+1)*(p.frame+3)*(n+7)*7919 + (n+5)*(n+5)*104729) % 65521
	return held(s.level(p) + h%(2*s.B+1) - s.B)
}

func (s look) lifted(p spot) int { return held(s.level(p) + s.A) }
