package bench

import (
	"slices"
	"testing"

	"telecine/api"
)

// shown is a task, and what Gaps returns of it.
type shown struct {
	x      api.BnTask
	gaps   []api.BnGap
	struck []api.BnStrike
	wrong  []int
	e      api.Errno
}

// show runs Gaps on tasks.
func show(t *testing.T, list []shown) {
	t.Helper()
	for i, c := range list {
		gaps, struck, wrong, e := Gaps(c.x)
		if !slices.Equal(gaps, c.gaps) || !slices.Equal(struck, c.struck) || !slices.Equal(wrong, c.wrong) || e != c.e {
			t.Errorf("%d: Gaps = %v, %v, %v, %d; want %v, %v, %v, %d", i, gaps, struck, wrong, e, c.gaps, c.struck, c.wrong, c.e)
		}
	}
}

// short returns a task of a reel of 100 frames, which were a whole of 120 frames.
func short(notes []api.BnNote, marks ...api.FmMark) api.BnTask {
	return api.BnTask{Reel: reelOf(api.Fm35, 100, marks...), Whole: span(120, 120), Notes: notes}
}

// within20 are the gaps of short with one inside, where so many frames are missing.
func within20(frame, lo, hi int) []api.BnGap {
	return []api.BnGap{gap(0, api.BnHead, 0, 20-lo), gap(frame, api.BnInside, lo, hi), gap(100, api.BnTail, 0, 20-lo)}
}

// P5.4: the example; where gaps are, at the head, inside and at the tail, and where splices tell nothing.
func TestGapsWhere(t *testing.T) {
	all := []api.BnGap{gap(0, api.BnHead, 0, 20), gap(100, api.BnTail, 0, 20)}
	leaders := []api.BnNote{leader("ada", 1, 0, 9), leader("ada", 2, 40, 49), leader("ada", 3, 90, 99)}
	free := []api.BnGap{gap(10, api.BnHead, 0, 50), gap(50, api.BnInside, 0, 50), gap(100, api.BnTail, 0, 50)}
	show(t, []shown{
		{x: example(), gaps: []api.BnGap{gap(50, 1, 0, 75), gap(150, 2, 28, 28), gap(500, 2, 172, 172), gap(900, 2, 5, 10), gap(1000, 3, 0, 75)}},
		{x: short(nil), gaps: all},
		{x: short(leaders), gaps: free},
		// Ahead of leader, or of the first frame of picture, splices tell nothing, and none is struck.
		{x: short(append(slices.Clone(leaders), splice("ben", 1, 10, 3, 3), splice("ben", 2, 10, 4, 4), splice("ben", 3, 0, 1, 1), splice("ben", 4, 40, 2, 2), splice("ben", 5, 45, 2, 2), splice("ben", 6, 45, 3, 3), splice("ben", 7, 99, 400000, 400000))), gaps: free},
		{x: short([]api.BnNote{splice("ben", 1, 0, 3, 3), splice("ben", 2, 0, 4, 4)}), gaps: all},
		// Behind leader they tell as much as elsewhere.
		{x: short(append(slices.Clone(leaders), splice("ben", 1, 50, 3, 7))), gaps: []api.BnGap{gap(10, 1, 0, 47), gap(50, 2, 3, 7), gap(100, 3, 0, 47)}},
		// Only the first piece of picture has none ahead of it.
		{x: short([]api.BnNote{splice("ada", 1, 1, 2, 2), splice("ada", 2, 99, 3, 3)}), gaps: []api.BnGap{gap(0, 1, 0, 15), gap(1, 2, 2, 2), gap(99, 2, 3, 3), gap(100, 3, 0, 15)}},
		// Tears, and notes that do not stand, tell nothing.
		{x: short([]api.BnNote{tear("ada", 1, 10, 20), splice("ada", 2, 30, 5, 5), revised(splice("ada", 2, 60, 5, 5), 1), splice("ben", 1, 70, 5, 5), splice("ben", 1, 70, 5, 6)}), gaps: within20(60, 5, 5)},
		// Without any picture there is one gap only.
		{x: short([]api.BnNote{leader("ada", 1, 0, 99), splice("ada", 2, 50, 1, 1)}), gaps: []api.BnGap{gap(100, api.BnHead, 120, 120)}},
		{x: short([]api.BnNote{leader("ada", 1, 0, 98)}), gaps: []api.BnGap{gap(99, api.BnHead, 0, 119), gap(100, api.BnTail, 0, 119)}},
		{x: short([]api.BnNote{leader("ada", 1, 1, 99)}), gaps: []api.BnGap{gap(0, api.BnHead, 0, 119), gap(100, api.BnTail, 0, 119)}},
	})
}

// P5.4: what is missing by several notes of splices at one frame, and which of them are struck.
func TestGapsStruck(t *testing.T) {
	show(t, []shown{
		{x: short([]api.BnNote{splice("ada", 1, 50, 2, 9), splice("ben", 1, 50, 5, 12)}), gaps: within20(50, 5, 9)},
		{x: short([]api.BnNote{splice("ben", 1, 50, 2, 9), splice("ada", 1, 50, 9, 12)}), gaps: within20(50, 9, 9)},
		{x: short([]api.BnNote{splice("ben", 1, 50, 2, 9), splice("ada", 1, 50, 0, 20)}), gaps: within20(50, 2, 9)},
		{x: short([]api.BnNote{splice("ada", 1, 50, 2, 9), splice("ben", 1, 50, 10, 12)}), gaps: within20(50, 2, 9), struck: []api.BnStrike{strike("ben", 1, "ada", 1)}},
		// The notes are taken in order, not as they are listed.
		{x: short([]api.BnNote{splice("ben", 1, 50, 10, 12), splice("ada", 7, 50, 2, 9)}), gaps: within20(50, 2, 9), struck: []api.BnStrike{strike("ben", 1, "ada", 7)}},
		{x: short([]api.BnNote{splice("ada", 10, 50, 10, 12), splice("ada", 9, 50, 2, 9)}), gaps: within20(50, 2, 9), struck: []api.BnStrike{strike("ada", 10, "ada", 9)}},
		// One that is struck changes nothing; the one that it contradicts need not be the first one.
		{x: short([]api.BnNote{splice("ada", 1, 50, 0, 9), splice("ada", 2, 50, 5, 9), splice("ada", 3, 50, 2, 4), splice("ada", 4, 50, 7, 20), splice("ada", 5, 50, 0, 6)}), gaps: within20(50, 7, 9), struck: []api.BnStrike{strike("ada", 3, "ada", 1), strike("ada", 5, "ada", 1)}},
		// In the order of notes: by frames first.
		{x: short([]api.BnNote{splice("ada", 1, 70, 1, 1), splice("ada", 2, 70, 2, 2), splice("ada", 3, 70, 3, 3), splice("ben", 1, 30, 4, 4), splice("ben", 2, 30, 5, 5)}), gaps: []api.BnGap{gap(0, 1, 0, 15), gap(30, 2, 4, 4), gap(70, 2, 1, 1), gap(100, 3, 0, 15)}, struck: []api.BnStrike{strike("ben", 2, "ben", 1), strike("ada", 2, "ada", 1), strike("ada", 3, "ada", 1)}},
	})
}

// P5.4: what two marks tell of the gaps between them.
func TestGapsMarks(t *testing.T) {
	at50 := func(lo, hi int) []api.BnNote { return []api.BnNote{splice("ada", 1, 50, lo, hi)} }
	sixteen := short(at50(0, 20), mark(30, 4, 10), mark(60, 4, 11))
	sixteen.Reel.Gauge = api.Fm16
	eight := short(at50(0, 20), mark(10, 4, 10), mark(80, 4, 11))
	eight.Reel.Gauge = api.Fm8
	show(t, []shown{
		// From 40 to 52 are 12 frames.
		{x: short(at50(0, 20), mark(40, 4, 10), mark(52, 4, 11)), gaps: within20(50, 4, 4)},
		{x: sixteen, gaps: within20(50, 10, 10)},
		{x: eight, gaps: within20(50, 10, 10)},
		// As many as the notes allow, at least and at most, and one more.
		{x: short(at50(4, 20), mark(40, 4, 10), mark(52, 4, 11)), gaps: within20(50, 4, 4)},
		{x: short(at50(0, 4), mark(40, 4, 10), mark(52, 4, 11)), gaps: within20(50, 4, 4)},
		{x: short(at50(5, 20), mark(40, 4, 10), mark(52, 4, 11)), gaps: within20(50, 5, 20), wrong: []int{1}},
		{x: short(at50(0, 3), mark(40, 4, 10), mark(52, 4, 11)), gaps: within20(50, 0, 3), wrong: []int{1}},
		// The gap ahead of the second mark is between them, that ahead of the first one is not.
		{x: short(at50(0, 20), mark(40, 4, 10), mark(50, 4, 11)), gaps: within20(50, 6, 6)},
		{x: short(at50(0, 20), mark(40, 4, 10), mark(49, 4, 11)), gaps: within20(50, 0, 20), wrong: []int{1}},
		{x: short(at50(0, 20), mark(50, 4, 10), mark(60, 4, 11)), gaps: within20(50, 0, 20), wrong: []int{1}},
		{x: short(at50(0, 20), mark(50, 4, 10), mark(66, 4, 11)), gaps: within20(50, 0, 20)},
		{x: short(at50(0, 20), mark(49, 4, 10), mark(59, 4, 11)), gaps: within20(50, 6, 6)},
		// Neither the gap at the head nor that at the tail is between marks.
		{x: short(at50(0, 3), mark(0, 4, 10), mark(15, 4, 11)), gaps: within20(50, 0, 3), wrong: []int{1}},
		{x: short(at50(0, 3), mark(83, 4, 10), mark(99, 4, 11)), gaps: within20(50, 0, 3)},
		// Numbers that descend, or stay.
		{x: short(at50(0, 20), mark(40, 4, 10), mark(60, 4, 9)), gaps: within20(50, 0, 20), wrong: []int{1}},
		{x: short(at50(0, 20), mark(40, 4, 10), mark(60, 4, 10)), gaps: within20(50, 0, 20), wrong: []int{1}},
		// Each mark is held against the one directly before it, even if that one is wrong, or of another roll.
		{x: short(at50(0, 20), mark(40, 4, 10), mark(44, 4, 0), mark(54, 4, 1)), gaps: within20(50, 6, 6), wrong: []int{1}},
		{x: short(at50(0, 20), mark(40, 4, 10), mark(54, 4, 11), mark(60, 4, 11)), gaps: within20(50, 2, 2), wrong: []int{2}},
		{x: short(at50(0, 20), mark(40, 4, 10), mark(44, 5, 10), mark(54, 4, 11)), gaps: within20(50, 0, 20)},
		{x: short(at50(0, 20), mark(40, 4, 10), mark(54, 5, 11)), gaps: within20(50, 0, 20)},
		{x: short(at50(0, 20), mark(54, 4, 11)), gaps: within20(50, 0, 20)},
		{x: short(nil, mark(1, 4, 1), mark(2, 4, 1), mark(18, 4, 2), mark(20, 5, 2), mark(21, 5, 3)), gaps: []api.BnGap{gap(0, 1, 0, 20), gap(100, 3, 0, 20)}, wrong: []int{1, 4}},
	})
}

// P5.4: marks around and on leader, and several gaps between two marks.
func TestGapsMarksLeader(t *testing.T) {
	blanks := func(until int, more ...api.BnNote) []api.BnNote {
		return append([]api.BnNote{leader("ada", 1, 50, until)}, more...)
	}
	show(t, []shown{
		// From 45 to 60 are 15 frames, of which 3 are leader.
		{x: short(blanks(52), mark(45, 4, 1), mark(60, 4, 2)), gaps: []api.BnGap{gap(0, 1, 0, 19), gap(53, 2, 4, 4), gap(100, 3, 0, 19)}},
		{x: short(blanks(52), mark(49, 4, 1), mark(53, 4, 2)), gaps: []api.BnGap{gap(0, 1, 0, 8), gap(53, 2, 15, 15), gap(100, 3, 0, 8)}},
		// Marks on leader tell nothing, and stand between others.
		{x: short(blanks(52), mark(50, 4, 1), mark(60, 4, 2)), gaps: []api.BnGap{gap(0, 1, 0, 23), gap(53, 2, 0, 23), gap(100, 3, 0, 23)}},
		{x: short(blanks(52), mark(45, 4, 1), mark(52, 4, 2)), gaps: []api.BnGap{gap(0, 1, 0, 23), gap(53, 2, 0, 23), gap(100, 3, 0, 23)}},
		{x: short(blanks(52), mark(45, 4, 1), mark(51, 4, 9), mark(60, 4, 2)), gaps: []api.BnGap{gap(0, 1, 0, 23), gap(53, 2, 0, 23), gap(100, 3, 0, 23)}},
		// Two gaps share 12 frames.
		{x: short(blanks(50, splice("ben", 1, 60, 1, 5)), mark(45, 4, 1), mark(66, 4, 3)), gaps: []api.BnGap{gap(0, 1, 0, 9), gap(51, 2, 7, 11), gap(60, 2, 1, 5), gap(100, 3, 0, 9)}},
		{x: short([]api.BnNote{splice("ada", 1, 50, 2, 9), splice("ada", 2, 60, 0, 7)}, mark(45, 4, 1), mark(65, 4, 3)), gaps: []api.BnGap{gap(0, 1, 0, 8), gap(50, 2, 5, 9), gap(60, 2, 3, 7), gap(100, 3, 0, 8)}},
		{x: short([]api.BnNote{splice("ada", 1, 50, 2, 5), splice("ada", 2, 60, 0, 7)}, mark(45, 4, 1), mark(65, 4, 3)), gaps: []api.BnGap{gap(0, 1, 0, 8), gap(50, 2, 5, 5), gap(60, 2, 7, 7), gap(100, 3, 0, 8)}},
		{x: short([]api.BnNote{splice("ada", 1, 50, 2, 5), splice("ada", 2, 60, 0, 6)}, mark(45, 4, 1), mark(65, 4, 3)), gaps: []api.BnGap{gap(0, 1, 0, 18), gap(50, 2, 2, 5), gap(60, 2, 0, 6), gap(100, 3, 0, 18)}, wrong: []int{1}},
		{x: short([]api.BnNote{splice("ada", 1, 50, 9, 12), splice("ada", 2, 60, 4, 7)}, mark(45, 4, 1), mark(65, 4, 3)), gaps: []api.BnGap{gap(0, 1, 0, 7), gap(50, 2, 9, 12), gap(60, 2, 4, 7), gap(100, 3, 0, 7)}, wrong: []int{1}},
	})
}

// wholeOf returns a task of a reel of 100 frames, with a splice where from 5 to 9 frames are missing, and a whole.
func wholeOf(lo, hi int) api.BnTask {
	x := short([]api.BnNote{splice("ada", 1, 50, 5, 9)})
	x.Whole = span(lo, hi)
	return x
}

// P5.4: what the whole tells; without an answer, what is struck and wrong is told all the same.
func TestGapsWhole(t *testing.T) {
	down := wholeOf(1, 104)
	down.Notes = append(down.Notes, splice("ben", 1, 50, 3, 4))
	down.Reel.Marks = []api.FmMark{mark(3, 1, 1), mark(4, 1, 1)}
	tied := short([]api.BnNote{splice("ada", 1, 50, 5, 30)}, mark(40, 1, 1), mark(60, 1, 3))
	tied.Whole = span(100, 111)
	show(t, []shown{
		{x: wholeOf(105, 105), gaps: []api.BnGap{gap(0, 1, 0, 0), gap(50, 2, 5, 5), gap(100, 3, 0, 0)}},
		{x: wholeOf(1, 105), gaps: []api.BnGap{gap(0, 1, 0, 0), gap(50, 2, 5, 5), gap(100, 3, 0, 0)}},
		{x: wholeOf(1, 107), gaps: []api.BnGap{gap(0, 1, 0, 2), gap(50, 2, 5, 7), gap(100, 3, 0, 2)}},
		{x: wholeOf(107, 107), gaps: []api.BnGap{gap(0, 1, 0, 2), gap(50, 2, 5, 7), gap(100, 3, 0, 2)}},
		{x: wholeOf(120, 130), gaps: []api.BnGap{gap(0, 1, 0, 25), gap(50, 2, 5, 9), gap(100, 3, 0, 25)}},
		{x: wholeOf(1, 400000), gaps: []api.BnGap{gap(0, 1, 0, 399895), gap(50, 2, 5, 9), gap(100, 3, 0, 399895)}},
		{x: wholeOf(400000, 400000), gaps: []api.BnGap{gap(0, 1, 0, 399895), gap(50, 2, 5, 9), gap(100, 3, 0, 399895)}},
		{x: wholeOf(104, 104), e: api.ErrDown},
		{x: wholeOf(1, 1), e: api.ErrDown},
		{x: down, struck: []api.BnStrike{strike("ben", 1, "ada", 1)}, wrong: []int{1}, e: api.ErrDown},
		// What marks tell is not less because the whole is shorter; they are not wrong by it.
		{x: tied, e: api.ErrDown},
		{x: changed(func(x *api.BnTask) { x.Whole = span(1100, 1155) }), gaps: []api.BnGap{gap(50, 1, 0, 0), gap(150, 2, 28, 28), gap(500, 2, 172, 172), gap(900, 2, 5, 5), gap(1000, 3, 0, 0)}},
		{x: changed(func(x *api.BnTask) { x.Whole = span(1100, 1154) }), e: api.ErrDown},
	})
}

// placed is a task, a frame, and what Place returns of it.
type placed struct {
	x     api.BnTask
	frame int
	at    api.Span
	e     api.Errno
}

// P5.5: the examples; frames at the ends of pieces, with a share of the gaps between two marks before them; errors in their order.
func TestPlace(t *testing.T) {
	shared := short([]api.BnNote{splice("ada", 1, 50, 2, 9), splice("ada", 2, 60, 0, 7)}, mark(45, 4, 1), mark(65, 4, 3))
	down := changed(func(x *api.BnTask) { x.Whole = span(1, 1154) })
	for i, c := range []placed{
		{example(), 50, span(0, 75), api.OK},
		{example(), 149, span(99, 174), api.OK},
		{example(), 150, span(128, 203), api.OK},
		{example(), 600, span(750, 825), api.OK},
		{example(), 950, span(1105, 1180), api.OK},
		{example(), 20, api.Span{}, api.ErrNone},
		{example(), 0, api.Span{}, api.ErrNone},
		{example(), 49, api.Span{}, api.ErrNone},
		{example(), 899, span(1049, 1124), api.OK},
		{example(), 900, span(1055, 1130), api.OK},
		{example(), 999, span(1154, 1229), api.OK},
		{example(), -1, api.Span{}, api.ErrRange},
		{example(), 1000, api.Span{}, api.ErrRange},
		// 12 frames at both gaps together, so that what is before the second one goes with what is behind it.
		{shared, 0, span(0, 8), api.OK},
		{shared, 49, span(49, 57), api.OK},
		{shared, 50, span(55, 67), api.OK},
		{shared, 59, span(64, 76), api.OK},
		{shared, 60, span(72, 80), api.OK},
		{shared, 99, span(111, 119), api.OK},
		{down, 50, api.Span{}, api.ErrDown},
		{down, 49, api.Span{}, api.ErrNone},
		{down, 1000, api.Span{}, api.ErrRange},
	} {
		if at, e := Place(c.x, c.frame); at != c.at || e != c.e {
			t.Errorf("%d: Place of %d = %v, %d; want %v, %d", i, c.frame, at, e, c.at, c.e)
		}
	}
}

// P5.6: the example; frames within and across pieces, and none; errors in their order.
func TestFind(t *testing.T) {
	blanks := short([]api.BnNote{leader("ada", 1, 50, 54)})
	down := changed(func(x *api.BnTask) { x.Whole = span(1, 1154) })
	for i, c := range []struct {
		x     api.BnTask
		whole int
		want  []api.Span
		e     api.Errno
	}{
		{example(), 100, []api.Span{span(75, 149)}, api.OK},
		{example(), 0, []api.Span{span(50, 50)}, api.OK},
		{example(), 127, []api.Span{span(102, 149)}, api.OK},
		{example(), 128, []api.Span{span(103, 150)}, api.OK},
		{example(), 174, []api.Span{span(149, 196)}, api.OK},
		{example(), 175, []api.Span{span(150, 197)}, api.OK},
		{example(), 640, nil, api.OK},
		{example(), 1229, []api.Span{span(999, 999)}, api.OK},
		{example(), 1230, nil, api.OK},
		{example(), 399999, nil, api.OK},
		{example(), 400000, nil, api.ErrRange},
		{example(), -1, nil, api.ErrRange},
		// Leader is not found, and divides what is; 25 frames are missing at all gaps together.
		{blanks, 50, []api.Span{span(25, 49), span(55, 55)}, api.OK},
		{blanks, 49, []api.Span{span(24, 49)}, api.OK},
		{blanks, 60, []api.Span{span(35, 49), span(55, 65)}, api.OK},
		{blanks, 75, []api.Span{span(55, 80)}, api.OK},
		{short([]api.BnNote{leader("ada", 1, 0, 99)}), 5, nil, api.OK},
		{down, 0, nil, api.ErrDown},
		{down, -1, nil, api.ErrRange},
	} {
		if l, e := Find(c.x, c.whole); !slices.Equal(l, c.want) || e != c.e {
			t.Errorf("%d: Find of %d = %v, %d; want %v, %d", i, c.whole, l, e, c.want, c.e)
		}
	}
}
