package bench

import (
	"math/rand/v2"
	"slices"
	"testing"

	"telecine/api"
)

// span returns the span from one number to another one.
func span(lo, hi int) api.Span { return api.Span{Lo: lo, Hi: hi} }

// splice returns a note of a splice ahead of a frame.
func splice(by string, number, frame, lo, hi int) api.BnNote {
	return api.BnNote{By: by, Number: number, Kind: api.BnSplice, From: frame, Until: frame, Missing: span(lo, hi)}
}

// tear returns a note of frames that are torn.
func tear(by string, number, from, until int) api.BnNote {
	return api.BnNote{By: by, Number: number, Kind: api.BnTear, From: from, Until: until}
}

// leader returns a note of frames that are leader.
func leader(by string, number, from, until int) api.BnNote {
	return api.BnNote{By: by, Number: number, Kind: api.BnLeader, From: from, Until: until}
}

// revised returns a note with another revision.
func revised(n api.BnNote, rev int) api.BnNote {
	n.Rev = rev
	return n
}

// piece returns a piece of picture.
func piece(from, until int) api.BnPiece { return api.BnPiece{From: from, Until: until} }

// blank returns a piece of leader.
func blank(from, until int) api.BnPiece { return api.BnPiece{From: from, Until: until, Leader: true} }

// mark returns a mark.
func mark(frame, roll, number int) api.FmMark {
	return api.FmMark{Frame: frame, Roll: roll, Number: number}
}

// gap returns a gap.
func gap(frame, kind, lo, hi int) api.BnGap {
	return api.BnGap{Frame: frame, Kind: kind, Missing: span(lo, hi)}
}

// strike returns a note that is struck, and the first one at the same frame.
func strike(by string, number int, first string, firstNumber int) api.BnStrike {
	return api.BnStrike{By: by, Number: number, First: first, FirstNumber: firstNumber}
}

// reelOf returns a reel with so many frames, and with marks.
func reelOf(gauge, frames int, marks ...api.FmMark) api.FmReel {
	return api.FmReel{Name: "nana-2", Gauge: gauge, Base: api.FmNitrate, Frames: frames, Years: span(1925, 1940), Keep: 3, Marks: marks}
}

// example is the task T of the chapter's examples.
func example() api.BnTask {
	r := reelOf(api.Fm35, 1000, mark(100, 4, 10), mark(200, 4, 18), mark(700, 4, 60))
	r.Symbols = []api.FmSymbol{{Roll: 4, Code: 12}, {Roll: 7, Code: 10}}
	r.Lengths = []api.FmLength{{Frames: 100, Micro: 1891000, Error: 1000}, {Frames: 200, Micro: 3780000, Error: 2500}}
	return api.BnTask{Reel: r, Whole: span(1200, 1230), Notes: []api.BnNote{
		leader("ada", 1, 0, 49), splice("ada", 2, 150, 20, 40), splice("ada", 3, 500, 0, 300), tear("ada", 4, 520, 525),
		splice("ben", 1, 150, 28, 60), tear("ben", 2, 524, 530), splice("ben", 3, 900, 5, 10),
	}}
}

// changed returns the example's task with a change.
func changed(change func(x *api.BnTask)) api.BnTask {
	x := example()
	change(&x)
	return x
}

// copied returns a task that shares no memory with x.
func copied(x api.BnTask) api.BnTask {
	x.Notes = slices.Clone(x.Notes)
	x.Reel.Marks, x.Reel.Symbols, x.Reel.Lengths = slices.Clone(x.Reel.Marks), slices.Clone(x.Reel.Symbols), slices.Clone(x.Reel.Lengths)
	return x
}

// dice is a source of numbers that are the same in each run.
func dice(seed uint64) *rand.Rand { return rand.New(rand.NewPCG(seed, 1895)) }

// from returns a number from lo to hi.
func from(d *rand.Rand, lo, hi int) int { return lo + d.IntN(hi-lo+1) }

// anySpan returns some span of numbers from lo to hi.
func anySpan(d *rand.Rand, lo, hi int) api.Span {
	n := from(d, lo, hi)
	return span(n, from(d, n, hi))
}

// names are those of the inspectors of random notes.
func names() []string { return []string{"ada", "ada-2", "ben"} }

// anyNote returns some note of few frames, numbers and revisions, so that many are about the same ones.
func anyNote(d *rand.Rand, frames int) api.BnNote {
	by, number, at := names()[d.IntN(3)], from(d, 1, 20), d.IntN(frames)
	n := splice(by, number, at-at%6, 0, 0)
	switch d.IntN(6) {
	case 0:
		n = tear(by, number, at, min(frames-1, at+d.IntN(6)))
	case 1:
		n = leader(by, number, at, min(frames-1, at+d.IntN(6)))
	case 2, 3:
		n.Missing = anySpan(d, 0, 7)
	default:
		n.Missing = span(d.IntN(3), from(d, 4, 20))
	}
	return revised(n, d.IntN(8)/6)
}

// anyNotes returns at most so many notes.
func anyNotes(d *rand.Rand, frames, most int) []api.BnNote {
	var list []api.BnNote
	for range from(d, 0, most) {
		list = append(list, anyNote(d, frames))
	}
	return list
}

// anyTask returns some task of a short reel, whose notes, marks and whole often contradict each other.
func anyTask(d *rand.Rand) api.BnTask {
	frames := from(d, 1, 60)
	x := api.BnTask{Reel: reelOf(api.Fm35, frames), Notes: anyNotes(d, frames, 12)}
	last, number := d.IntN(min(frames, 10)), d.IntN(4)
	for frame := last; frame < frames; frame++ {
		// Mostly so few are missing that splices can tell as much.
		feet := (frame - last + 15) / 16
		if frame != last && (d.IntN(6) > 0 || 16*feet-(frame-last) > 8 && d.IntN(8) > 0) {
			continue
		}
		number += max(0, feet-d.IntN(12)/11)
		x.Reel.Marks = append(x.Reel.Marks, mark(frame, d.IntN(9)/8, number))
		last = frame
	}
	pictures := len(slowOf(x).pictures())
	x.Whole = anySpan(d, max(1, pictures-2), pictures+14)
	return x
}

// slowTask is a task, and frame by frame what its notes tell.
type slowTask struct {
	api.BnTask
	notes                 []api.BnNote
	leader, torn, spliced []bool
}

// slowOf returns a task frame by frame, by the definitions.
func slowOf(x api.BnTask) slowTask {
	s := slowTask{x, slowStand(x.Notes), make([]bool, x.Reel.Frames), make([]bool, x.Reel.Frames), make([]bool, x.Reel.Frames)}
	for _, n := range s.notes {
		for frame := n.From; frame <= n.Until; frame++ {
			switch n.Kind {
			case api.BnLeader:
				s.leader[frame] = true
			case api.BnTear:
				s.torn[frame] = true
			case api.BnSplice:
				s.spliced[frame] = true
			}
		}
	}
	return s
}

// pictures returns the frames of picture.
func (s slowTask) pictures() []int {
	var list []int
	for frame, is := range s.leader {
		if !is {
			list = append(list, frame)
		}
	}
	return list
}

// begins reports whether a piece begins with a frame.
func (s slowTask) begins(frame int) bool {
	return frame == 0 || s.leader[frame] != s.leader[frame-1] || !s.leader[frame] && s.spliced[frame]
}

// pieces returns the pieces of the reel.
func (s slowTask) pieces() []api.BnPiece {
	var list []api.BnPiece
	for frame := range s.Reel.Frames {
		if s.begins(frame) {
			list = append(list, api.BnPiece{From: frame, Leader: s.leader[frame]})
		}
		list[len(list)-1].Until = frame
	}
	return list
}

// spansOf returns the frames that are in a list, as spans.
func spansOf(is []bool) []api.Span {
	var list []api.Span
	for frame := range is {
		switch {
		case !is[frame]:
		case frame == 0 || !is[frame-1]:
			list = append(list, span(frame, frame))
		default:
			list[len(list)-1].Hi = frame
		}
	}
	return list
}

// expectPieces holds Pieces and Torn of a task against what is wanted.
func expectPieces(t *testing.T, x api.BnTask, pieces []api.BnPiece, torn []api.Span) {
	t.Helper()
	l, e := Pieces(x)
	if !slices.Equal(l, pieces) || e != api.OK {
		t.Errorf("Pieces of %v = %v, %d; want %v", x.Notes, l, e, pieces)
	}
	u, e := Torn(x)
	if !slices.Equal(u, torn) || e != api.OK {
		t.Errorf("Torn of %v = %v, %d; want %v", x.Notes, u, e, torn)
	}
}

// P5.3: the examples, and pieces and tears at the ends of the reel, at each other's ends and across each other.
func TestPiecesTorn(t *testing.T) {
	expectPieces(t, example(), []api.BnPiece{blank(0, 49), piece(50, 149), piece(150, 499), piece(500, 899), piece(900, 999)}, []api.Span{span(520, 530)})
	for _, c := range []struct {
		frames int
		notes  []api.BnNote
		pieces []api.BnPiece
		torn   []api.Span
	}{
		{1, nil, []api.BnPiece{piece(0, 0)}, nil},
		{1, []api.BnNote{leader("ada", 1, 0, 0), tear("ada", 2, 0, 0)}, []api.BnPiece{blank(0, 0)}, []api.Span{span(0, 0)}},
		{10, []api.BnNote{splice("ada", 1, 0, 0, 0), splice("ada", 2, 9, 0, 0)}, []api.BnPiece{piece(0, 8), piece(9, 9)}, nil},
		// Leader is not cut by splices, and not by where one note ends and another one begins.
		{10, []api.BnNote{leader("ada", 1, 0, 4), leader("ada", 2, 5, 9), splice("ada", 3, 5, 0, 0), splice("ada", 4, 2, 0, 0)}, []api.BnPiece{blank(0, 9)}, nil},
		{10, []api.BnNote{leader("ada", 1, 2, 7), leader("ada", 2, 3, 4), splice("ada", 3, 8, 0, 0)}, []api.BnPiece{piece(0, 1), blank(2, 7), piece(8, 9)}, nil},
		{10, []api.BnNote{leader("ada", 1, 2, 3), leader("ada", 2, 5, 6), splice("ada", 3, 2, 0, 0), splice("ada", 4, 4, 0, 0)}, []api.BnPiece{piece(0, 1), blank(2, 3), piece(4, 4), blank(5, 6), piece(7, 9)}, nil},
		{10, []api.BnNote{splice("ada", 1, 4, 0, 0), splice("ben", 1, 4, 0, 3), splice("ben", 2, 5, 0, 3)}, []api.BnPiece{piece(0, 3), piece(4, 4), piece(5, 9)}, nil},
		// Tears do not cut pieces; they are joined if nothing is between them.
		{10, []api.BnNote{tear("ada", 1, 0, 1), tear("ada", 2, 2, 2), tear("ada", 3, 4, 9), tear("ben", 1, 5, 6), tear("ben", 2, 8, 9)}, []api.BnPiece{piece(0, 9)}, []api.Span{span(0, 2), span(4, 9)}},
		{10, []api.BnNote{tear("ada", 1, 4, 6), leader("ada", 2, 5, 5)}, []api.BnPiece{piece(0, 4), blank(5, 5), piece(6, 9)}, []api.Span{span(4, 6)}},
		// Only notes that stand tell something.
		{10, []api.BnNote{leader("ada", 1, 0, 9), revised(leader("ada", 1, 0, 1), 1), tear("ben", 1, 3, 3), tear("ben", 1, 4, 4), splice("ben", 2, 5, 0, 0), revised(splice("ben", 2, 6, 0, 0), 2)}, []api.BnPiece{blank(0, 1), piece(2, 5), piece(6, 9)}, nil},
	} {
		expectPieces(t, api.BnTask{Reel: reelOf(api.Fm35, c.frames), Whole: span(1, 1), Notes: c.notes}, c.pieces, c.torn)
	}
}

// P5.3: pieces and tears are those of the definitions, frame by frame.
func TestPiecesFrameByFrame(t *testing.T) {
	d := dice(3)
	for range 5000 {
		x := anyTask(d)
		s := slowOf(x)
		expectPieces(t, x, s.pieces(), spansOf(s.torn))
		if t.Failed() {
			t.FailNow()
		}
	}
}
