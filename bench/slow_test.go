package bench

import (
	"slices"
	"testing"

	"telecine/api"
)

// slowGap is a gap, and the numbers that the notes leave there.
type slowGap struct {
	frame, kind int
	lo, hi      int
}

// slowSurvey is a task with its gaps, the notes that are struck, and the pairs of marks that tell something, by their second ones.
type slowSurvey struct {
	slowTask
	gaps           []slowGap
	struck         []api.BnStrike
	telling, wrong []int
}

// surveyOf returns what is told of the gaps of a task, by the definitions.
func surveyOf(x api.BnTask) slowSurvey {
	s := slowSurvey{slowTask: slowOf(x)}
	pictures := s.pictures()
	if len(pictures) == 0 {
		s.gaps = []slowGap{{x.Reel.Frames, api.BnHead, 0, api.MaxBnWhole}}
		return s
	}
	s.gaps = []slowGap{{pictures[0], api.BnHead, 0, api.MaxBnWhole}}
	for _, frame := range pictures[1:] {
		if s.begins(frame) {
			s.addInside(frame)
		}
	}
	s.gaps = append(s.gaps, slowGap{x.Reel.Frames, api.BnTail, 0, api.MaxBnWhole})
	for i := 1; i < len(x.Reel.Marks); i++ {
		s.addMark(i)
	}
	return s
}

// addInside adds the gap ahead of a frame, and the notes that are struck there.
func (s *slowSurvey) addInside(frame int) {
	g := slowGap{frame, api.BnInside, 0, api.MaxBnWhole}
	var first *api.BnNote
	for _, n := range s.notes {
		if n.Kind != api.BnSplice || n.From != frame {
			continue
		}
		if first == nil {
			first = &n
		}
		if n.Missing.Lo > g.hi || n.Missing.Hi < g.lo {
			s.struck = append(s.struck, strike(n.By, n.Number, first.By, first.Number))
			continue
		}
		g.lo, g.hi = max(g.lo, n.Missing.Lo), min(g.hi, n.Missing.Hi)
	}
	s.gaps = append(s.gaps, g)
}

// between reports whether a gap is between a mark and the one before it.
func (s slowSurvey) between(i int, g slowGap) bool {
	return s.Reel.Marks[i-1].Frame < g.frame && g.frame <= s.Reel.Marks[i].Frame
}

// told returns how many frames are missing between a mark and the one before it, on a roll of 35 mm.
func (s slowSurvey) told(i int) int {
	a, b := s.Reel.Marks[i-1], s.Reel.Marks[i]
	n := 16 * (b.Number - a.Number)
	for _, frame := range s.pictures() {
		if a.Frame < frame && frame <= b.Frame {
			n--
		}
	}
	return n
}

// addMark adds what a mark and the one before it tell, or that it is wrong.
func (s *slowSurvey) addMark(i int) {
	a, b := s.Reel.Marks[i-1], s.Reel.Marks[i]
	if a.Roll != b.Roll || s.leader[a.Frame] || s.leader[b.Frame] {
		return
	}
	lo, hi := 0, 0
	for _, g := range s.gaps {
		if s.between(i, g) {
			lo, hi = lo+g.lo, hi+g.hi
		}
	}
	if n := s.told(i); n < lo || n > hi {
		s.wrong = append(s.wrong, i)
	} else {
		s.telling = append(s.telling, i)
	}
}

// sharing returns how many marks tell of several gaps together.
func (s slowSurvey) sharing() int {
	count := 0
	for _, i := range s.telling {
		gaps := 0
		for _, g := range s.gaps {
			if s.between(i, g) {
				gaps++
			}
		}
		if gaps > 1 {
			count++
		}
	}
	return count
}

// keeps reports whether the numbers of all gaps keep to what the marks and the whole tell.
func (s slowSurvey) keeps(numbers []int) bool {
	for _, i := range s.telling {
		n := 0
		for j, g := range s.gaps {
			if s.between(i, g) {
				n += numbers[j]
			}
		}
		if n != s.told(i) {
			return false
		}
	}
	n := len(s.pictures())
	for _, x := range numbers {
		n += x
	}
	return within(n, s.Whole.Lo, s.Whole.Hi)
}

// answers calls do with all answers.
func (s slowSurvey) answers(do func(numbers []int)) {
	var numbers []int
	var choose func(left int)
	choose = func(left int) {
		if len(numbers) == len(s.gaps) {
			if s.keeps(numbers) {
				do(numbers)
			}
			return
		}
		g := s.gaps[len(numbers)]
		for n := g.lo; n <= min(g.hi, left); n++ {
			numbers = append(numbers, n)
			choose(left - n)
			numbers = numbers[:len(numbers)-1]
		}
	}
	choose(s.Whole.Hi - len(s.pictures()))
}

// widen makes a span have a number.
func widen(s *api.Span, n int) { s.Lo, s.Hi = min(s.Lo, n), max(s.Hi, n) }

// bounds returns what is missing at each gap, and the place of the frame at each gap if it is a frame of picture, in all answers, and whether there is one.
func (s slowSurvey) bounds() (missing, places []api.Span, some bool) {
	for range s.gaps {
		missing, places = append(missing, span(api.MaxBnWhole, 0)), append(places, span(api.MaxBnWhole, 0))
	}
	s.answers(func(numbers []int) {
		some = true
		before := 0
		for i, n := range numbers {
			before += n
			widen(&missing[i], n)
			widen(&places[i], before)
		}
	})
	return missing, places, some
}

// expectGaps holds Gaps against what is wanted.
func expectGaps(t *testing.T, s slowSurvey, missing []api.Span, some bool) {
	t.Helper()
	var want []api.BnGap
	e := api.ErrDown
	if some {
		e = api.OK
		for i, g := range s.gaps {
			want = append(want, api.BnGap{Frame: g.frame, Kind: g.kind, Missing: missing[i]})
		}
	}
	gaps, struck, wrong, f := Gaps(s.BnTask)
	if !slices.Equal(gaps, want) || !slices.Equal(struck, s.struck) || !slices.Equal(wrong, s.wrong) || f != e {
		t.Fatalf("Gaps of %+v = %v, %v, %v, %d; want %v, %v, %v, %d", s.BnTask, gaps, struck, wrong, f, want, s.struck, s.wrong, e)
	}
}

// expectPlaces holds Place of all frames against what is wanted.
func expectPlaces(t *testing.T, s slowSurvey, places []api.Span, some bool) {
	t.Helper()
	before, last := 0, 0
	for frame := range s.Reel.Frames {
		var want api.Span
		e := api.ErrNone
		if !s.leader[frame] {
			e = api.ErrDown
			for last+1 < len(s.gaps) && s.gaps[last+1].frame <= frame {
				last++
			}
			if some {
				want, e = span(places[last].Lo+before, places[last].Hi+before), api.OK
			}
			before++
		}
		if at, f := Place(s.BnTask, frame); at != want || f != e {
			t.Fatalf("Place of %+v, %d = %v, %d; want %v, %d", s.BnTask, frame, at, f, want, e)
		}
	}
}

// P5.4, P5.5 and DOC's P3: gaps and places have just the numbers from the least to the greatest one in all answers, by the definitions.
func TestAllAnswers(t *testing.T) {
	d := dice(4)
	var answered, down, struck, wrong, telling, sharing int
	for range 6000 {
		s := surveyOf(anyTask(d))
		if len(s.gaps) > 6 {
			continue
		}
		missing, places, some := s.bounds()
		expectGaps(t, s, missing, some)
		expectPlaces(t, s, places, some)
		if some {
			answered++
			telling += len(s.telling)
			sharing += s.sharing()
		} else {
			down++
		}
		struck += len(s.struck)
		wrong += len(s.wrong)
	}
	if answered < 1000 || down < 500 || struck < 300 || wrong < 1000 || telling < 500 || sharing < 50 {
		t.Errorf("answered, down, struck, wrong, telling, sharing: %d, %d, %d, %d, %d, %d", answered, down, struck, wrong, telling, sharing)
	}
}
