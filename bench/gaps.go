package bench

import (
	"slices"

	"telecine/api"
	"telecine/film"
)

// sum is the sum of the spans that were added to it.
type sum struct{ api.Span }

// add adds a span.
func (s *sum) add(x api.Span) {
	s.Lo += x.Lo
	s.Hi += x.Hi
}

// share is some gaps, with what is missing at each of them by the notes, and what is told to be missing at all of them together. Each gap is in one share, so that what is missing in one depends on no other.
type share struct {
	gaps []api.BnGap
	told api.Span
}

// part returns how many frames can be missing at those gaps of a share that are chosen, together; its Lo is above its Hi if no numbers keep to what is told.
func (s share) part(chosen func(api.BnGap) bool) api.Span {
	var in, out sum
	for _, g := range s.gaps {
		add := out.add
		if chosen(g) {
			add = in.add
		}
		add(g.Missing)
	}
	return api.Span{Lo: max(in.Lo, s.told.Lo-out.Hi), Hi: min(in.Hi, s.told.Hi-out.Lo)}
}

// possible reports whether there are numbers for the gaps of a share that keep to what is told.
func (s share) possible() bool {
	all := s.part(func(api.BnGap) bool { return true })
	return all.Lo <= all.Hi
}

// survey is what the notes, the marks and the whole tell of the gaps of a reel.
type survey struct {
	gaps   []api.BnGap
	shares []share
	struck []api.BnStrike
	wrong  []int
}

// survey returns what is told of the gaps of the reel.
func (x task) survey() survey {
	gaps, struck := x.byNotes()
	shares, rest, wrong := x.byMarks(gaps)
	// What the marks tell is fixed, so that the whole tells only of the other gaps.
	left := sum{x.Whole}
	known := x.pictures(x.Reel.Frames)
	for _, s := range shares {
		known += s.told.Lo
	}
	left.add(api.Span{Lo: -known, Hi: -known})
	return survey{gaps, append(shares, share{rest, left.Span}), struck, wrong}
}

// byNotes returns the gaps of the reel, with what is missing at each of them by the notes, and the notes that are struck.
func (x task) byNotes() (gaps []api.BnGap, struck []api.BnStrike) {
	add := func(frame, kind int) {
		g := api.BnGap{Frame: frame, Kind: kind, Missing: api.Span{Lo: 0, Hi: api.MaxBnWhole}}
		if kind == api.BnInside {
			struck = append(struck, x.narrow(&g)...)
		}
		gaps = append(gaps, g)
	}
	for p := range x.pieces() {
		switch {
		case p.Leader:
		case len(gaps) == 0:
			add(p.From, api.BnHead)
		default:
			add(p.From, api.BnInside)
		}
	}
	if len(gaps) == 0 {
		add(x.Reel.Frames, api.BnHead)
	} else {
		add(x.Reel.Frames, api.BnTail)
	}
	return gaps, struck
}

// narrow narrows what is missing at a gap by the notes of splices there, and returns those that are struck.
func (x task) narrow(g *api.BnGap) (struck []api.BnStrike) {
	var there []api.BnNote
	for _, n := range x.splices {
		if n.From == g.Frame {
			there = append(there, n)
		}
	}
	for _, n := range there {
		common := api.Span{Lo: max(g.Missing.Lo, n.Missing.Lo), Hi: min(g.Missing.Hi, n.Missing.Hi)}
		if common.Lo > common.Hi {
			struck = append(struck, api.BnStrike{By: n.By, Number: n.Number, First: there[0].By, FirstNumber: there[0].Number})
			continue
		}
		g.Missing = common
	}
	return struck
}

// byMarks returns the shares of which two marks tell, the gaps in none of them, and the marks that are wrong.
func (x task) byMarks(gaps []api.BnGap) (shares []share, rest []api.BnGap, wrong []int) {
	rest = gaps
	for i := 1; i < len(x.Reel.Marks); i++ {
		a, b := x.Reel.Marks[i-1], x.Reel.Marks[i]
		if a.Roll != b.Roll || x.isLeader(a.Frame) || x.isLeader(b.Frame) {
			continue
		}
		between, others := divided(rest, func(g api.BnGap) bool { return within(g.Frame, a.Frame+1, b.Frame) })
		missing := x.missing(a, b)
		s := share{between, api.Span{Lo: missing, Hi: missing}}
		if !s.possible() {
			wrong = append(wrong, i)
			continue
		}
		shares, rest = append(shares, s), others
	}
	return shares, rest, wrong
}

// missing returns how many frames of picture are missing between two marks of a roll, by their numbers.
func (x task) missing(a, b api.FmMark) int {
	foot, _ := film.Frames(x.Reel.Gauge, 1, 0)
	return (b.Number-a.Number)*foot - (x.pictures(b.Frame+1) - x.pictures(a.Frame+1))
}

// divided returns the gaps that are chosen, and the others.
func divided(gaps []api.BnGap, chosen func(api.BnGap) bool) (in, out []api.BnGap) {
	for _, g := range gaps {
		if chosen(g) {
			in = append(in, g)
		} else {
			out = append(out, g)
		}
	}
	return in, out
}

// possible reports whether there is an answer.
func (s survey) possible() bool {
	return !slices.ContainsFunc(s.shares, func(x share) bool { return !x.possible() })
}

// missing returns the span from the least to the greatest number of frames that are missing at the gaps that are chosen, together, in all answers.
func (s survey) missing(chosen func(api.BnGap) bool) api.Span {
	var all sum
	for _, x := range s.shares {
		all.add(x.part(chosen))
	}
	return all.Span
}

// place returns the span from the least to the greatest place of a frame of picture in all answers.
func (x task) place(s survey, frame int) api.Span {
	place := sum{s.missing(func(g api.BnGap) bool { return g.Frame <= frame })}
	before := x.pictures(frame)
	place.add(api.Span{Lo: before, Hi: before})
	return place.Span
}

// Gaps returns where frames of picture can be missing, the notes that are struck, and the marks that contradict the notes.
func Gaps(t api.BnTask) (gaps []api.BnGap, struck []api.BnStrike, wrong []int, e api.Errno) {
	x, e := taskOf(t)
	if e != api.OK {
		return nil, nil, nil, e
	}
	s := x.survey()
	if !s.possible() {
		return nil, s.struck, s.wrong, api.ErrDown
	}
	for _, g := range s.gaps {
		g.Missing = s.missing(func(other api.BnGap) bool { return other.Frame == g.Frame })
		gaps = append(gaps, g)
	}
	return gaps, s.struck, s.wrong, api.OK
}

// Place returns which frame of the whole picture a frame of the reel can have been.
func Place(t api.BnTask, frame int) (api.Span, api.Errno) {
	x, e := taskOf(t)
	switch {
	case e != api.OK:
		return api.Span{}, e
	case !within(frame, 0, x.Reel.Frames-1):
		return api.Span{}, api.ErrRange
	case x.isLeader(frame):
		return api.Span{}, api.ErrNone
	}
	s := x.survey()
	if !s.possible() {
		return api.Span{}, api.ErrDown
	}
	return x.place(s, frame), api.OK
}

// Find returns the frames of the reel that can have been a frame of the whole picture.
func Find(t api.BnTask, whole int) ([]api.Span, api.Errno) {
	x, e := taskOf(t)
	if e != api.OK {
		return nil, e
	}
	if !within(whole, 0, api.MaxBnWhole-1) {
		return nil, api.ErrRange
	}
	s := x.survey()
	if !s.possible() {
		return nil, api.ErrDown
	}
	var found []api.Span
	for p := range x.pieces() {
		if p.Leader {
			continue
		}
		// Within a piece the place of each frame is that of the one before it, and 1.
		first := x.place(s, p.From)
		frames := api.Span{Lo: max(p.From, p.From+whole-first.Hi), Hi: min(p.Until, p.From+whole-first.Lo)}
		if frames.Lo <= frames.Hi {
			found = append(found, frames)
		}
	}
	return joined(found), api.OK
}
