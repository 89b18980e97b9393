package restore

import (
	"slices"
	"testing"

	"telecine/api"
)

// expectUndo checks what Undo returns.
func expectUndo(t *testing.T, l []api.SnFrame, log [][]api.ReChange, want []api.SnFrame, at int, e api.Errno) {
	t.Helper()
	if film, n, f := Undo(l, log); !alikeFilms(film, want) || n != at || f != e {
		t.Errorf("Undo of %v by %v = %v, %d, %d; want %v, %d, %d", l, log, film, n, f, want, at, e)
	}
}

// expectRedo checks what Redo returns.
func expectRedo(t *testing.T, l []api.SnFrame, log [][]api.ReChange, want []api.SnFrame, at int, e api.Errno) {
	t.Helper()
	if film, n, f := Redo(l, log); !alikeFilms(film, want) || n != at || f != e {
		t.Errorf("Redo of %v by %v = %v, %d, %d; want %v, %d, %d", l, log, film, n, f, want, at, e)
	}
}

// P8.4: Undo goes from the last step to the first one, Redo from the first one to the last one.
func TestUndoAndRedo(t *testing.T) {
	behind := frames(frame(3, 10, 20, 230, 240, 250, 255), example()[1])
	expectUndo(t, behind, logOf(lifted()), example(), 0, api.OK)
	expectRedo(t, example(), logOf(lifted()), behind, 0, api.OK)
	for _, log := range [][][]api.ReChange{nil, {}, {nil}, {{}, nil}, make([][]api.ReChange, 20)} {
		expectUndo(t, example(), log, example(), 0, api.OK)
		expectRedo(t, example(), log, example(), 0, api.OK)
	}
	// The same pixel again and again.
	log := logOf(changes(0, 0, 1, 2), nil, changes(0, 0, 2, 3, 0, 1, 5, 6, 1, 0, 7, 8), changes(0, 0, 3, 1))
	old, done := frames(frame(2, 1, 5), frame(2, 7, 7)), frames(frame(2, 1, 6), frame(2, 8, 7))
	expectUndo(t, done, log, old, 0, api.OK)
	expectRedo(t, old, log, done, 0, api.OK)
	// The last pixel of the largest film.
	large := slices.Repeat(frames(plain(48, 48, 0)), 12)
	marked := clone(large)
	marked[11].Pixels[2303] = 255
	expectUndo(t, marked, logOf(changes(11, 2303, 0, 255)), large, 0, api.OK)
	expectRedo(t, large, logOf(changes(11, 2303, 0, 255)), marked, 0, api.OK)
}

// P8.4: a pixel with another value names its step, the last one for Undo, the first one for Redo.
func TestOtherValues(t *testing.T) {
	for _, c := range []struct {
		log  [][]api.ReChange
		undo int // the step that it names, or -1
		redo int
	}{
		{logOf(changes(0, 0, 10, 11)), 0, -1}, {logOf(changes(0, 0, 11, 10)), -1, 0}, {logOf(changes(0, 0, 9, 11)), 0, 0}, {logOf(nil, changes(0, 0, 10, 11)), 1, -1}, {logOf(changes(0, 0, 11, 10), nil), -1, 0},
		{logOf(changes(0, 0, 10, 11), changes(0, 0, 11, 10)), -1, -1}, {logOf(changes(0, 0, 10, 11), changes(0, 0, 12, 10)), 0, 1}, {logOf(changes(0, 0, 10, 11), nil, changes(0, 0, 11, 12), changes(0, 0, 13, 10)), 2, 3}, {logOf(changes(0, 0, 1, 2), changes(0, 0, 1, 2)), 1, 0}, {logOf(changes(0, 0, 1, 2), nil, changes(0, 0, 1, 2)), 2, 0},
		// The last pixel of a step that is otherwise right.
		{logOf(changes(0, 0, 9, 10, 1, 4, 9, 90, 1, 5, 9, 61)), 0, 0}, {logOf(changes(0, 0, 10, 9, 1, 4, 90, 9, 1, 5, 61, 9)), 0, 0},
	} {
		if c.undo >= 0 {
			expectUndo(t, example(), c.log, nil, c.undo, api.ReErrOld)
		} else if film, at, e := Undo(example(), c.log); film == nil || at != 0 || e != api.OK {
			t.Errorf("Undo by %v = %v, %d, %d", c.log, film, at, e)
		}
		if c.redo >= 0 {
			expectRedo(t, example(), c.log, nil, c.redo, api.ReErrOld)
		} else if film, at, e := Redo(example(), c.log); film == nil || at != 0 || e != api.OK {
			t.Errorf("Redo by %v = %v, %d, %d", c.log, film, at, e)
		}
	}
}

// P8.4: the error of a log, of a film with two frames of six pixels.
func TestLogErrors(t *testing.T) {
	for _, c := range []struct {
		log [][]api.ReChange
		at  int
		e   api.Errno
	}{
		{make([][]api.ReChange, 21), 0, api.ErrLong}, {append(slices.Repeat(logOf(nil), 20), changes(9, 9, 9, 9)), 0, api.ErrLong}, {make([][]api.ReChange, 1000), 0, api.ErrLong},
		{logOf(changes(2, 0, 1, 2)), 0, api.ErrNone}, {logOf(changes(0, 6, 1, 2)), 0, api.ErrNone}, {logOf(changes(-1, 0, 1, 2)), 0, api.ErrNone}, {logOf(changes(0, -1, 1, 2)), 0, api.ErrNone}, {logOf(nil, nil, changes(0, 0, 10, 11, 1, 6, 1, 2)), 2, api.ErrNone}, {logOf(changes(1<<62, 0, 1, 2)), 0, api.ErrNone}, {logOf(changes(0, -1<<62, 1, 2)), 0, api.ErrNone}, {logOf(changes(0, 2303, 1, 2)), 0, api.ErrNone}, {logOf(changes(11, 0, 1, 2)), 0, api.ErrNone}, {logOf(changes(12, 2304, 1, 2)), 0, api.ErrNone},
		{logOf(nil, changes(0, 1, 1, 2, 0, 0, 1, 2)), 1, api.ErrArg}, {logOf(changes(1, 0, 1, 2, 0, 1, 1, 2)), 0, api.ErrArg}, {logOf(changes(0, 1, 1, 2, 0, 1, 2, 3)), 0, api.ErrArg}, {logOf(changes(0, 1, 1, 2, 0, 1, 1, 2)), 0, api.ErrArg}, {logOf(changes(0, 0, 10, 10)), 0, api.ErrArg}, {logOf(nil, changes(0, 0, 1, 2, 0, 1, 1, 1)), 1, api.ErrArg}, {logOf(changes(0, 5, 1, 2, 1, 0, 1, 2, 1, 0, 1, 2)), 0, api.ErrArg},
		// In a step a pixel that is not there comes before the order; else the first step with an error decides.
		{logOf(changes(0, 1, 2, 2, 0, 6, 1, 2)), 0, api.ErrNone}, {logOf(changes(1, 0, 1, 2, 0, 0, 1, 2, 2, 0, 3, 3)), 0, api.ErrNone}, {logOf(nil, changes(0, 1, 2, 2), changes(0, 6, 1, 2)), 1, api.ErrArg}, {logOf(nil, changes(0, 6, 1, 2), changes(0, 1, 2, 2)), 1, api.ErrNone},
		// They come before other values, also those of other steps.
		{logOf(changes(0, 0, 1, 2), changes(0, 0, 1, 1)), 1, api.ErrArg}, {logOf(changes(0, 0, 1, 1), changes(0, 0, 1, 2)), 0, api.ErrArg}, {logOf(changes(0, 0, 1, 2), changes(0, 6, 1, 2), changes(0, 0, 1, 2)), 1, api.ErrNone},
	} {
		expectUndo(t, example(), c.log, nil, c.at, c.e)
		expectRedo(t, example(), c.log, nil, c.at, c.e)
	}
}
