package bench

import (
	"cmp"
	"slices"

	"telecine/api"
	"telecine/film"
)

// Merge returns the notes that stand, of several lists.
func Merge(lists [][]api.BnNote) ([]api.BnNote, api.Errno) {
	if len(lists) > api.MaxBnLists {
		return nil, api.ErrLong
	}
	for _, list := range lists {
		if _, e := notesError(list, api.MaxFrames); e != api.OK {
			return nil, e
		}
	}
	notes := standing(lists...)
	if len(notes) > api.MaxBnNotes {
		return nil, api.ErrLong
	}
	return notes, api.OK
}

// notesError returns the first note of a list with an error, and its error; the notes are about a reel of so many frames.
func notesError(list []api.BnNote, frames int) (at int, e api.Errno) {
	if len(list) > api.MaxBnNotes {
		return 0, api.ErrLong
	}
	for i, n := range list {
		if e := noteError(n); e != api.OK {
			return i, e
		}
		if n.Until >= frames {
			return i, api.ErrNone
		}
	}
	return 0, api.OK
}

// noteError returns the error of a note.
func noteError(n api.BnNote) api.Errno {
	numbers := within(n.Number, 1, api.MaxBnNumber) && within(n.Rev, 0, api.MaxBnRev)
	frames := within(n.From, 0, api.MaxFrames-1) && within(n.Until, 0, api.MaxFrames-1)
	missing := within(n.Missing.Lo, 0, api.MaxBnWhole) && within(n.Missing.Hi, 0, api.MaxBnWhole)
	switch {
	case !film.Name(n.By):
		return api.ErrForm
	case !within(n.Kind, api.BnSplice, api.BnLeader):
		return api.ErrArg
	case !numbers || !frames || !missing:
		return api.ErrRange
	case n.From > n.Until || n.Missing.Lo > n.Missing.Hi:
		return api.ErrArg
	case n.Kind == api.BnSplice && n.From != n.Until:
		return api.ErrArg
	case n.Kind != api.BnSplice && n.Missing != api.Span{}:
		return api.ErrArg
	}
	return api.OK
}

// label is what all revisions of a note have in common.
type label struct {
	by     string
	number int
}

// claim is the note that counts of those with a label, and whether another one that counts contradicts it.
type claim struct {
	note         api.BnNote
	contradicted bool
}

// standing returns the notes that stand, of several lists without an error.
func standing(lists ...[]api.BnNote) []api.BnNote {
	claims := map[label]claim{}
	for _, n := range slices.Concat(lists...) {
		key := label{n.By, n.Number}
		c, known := claims[key]
		switch {
		case !known || n.Rev > c.note.Rev:
			claims[key] = claim{note: n}
		case n.Rev == c.note.Rev && n != c.note:
			claims[key] = claim{c.note, true}
		}
	}
	var notes []api.BnNote
	for _, c := range claims {
		if !c.contradicted {
			notes = append(notes, c.note)
		}
	}
	slices.SortFunc(notes, compareNotes)
	return notes
}

// compareNotes compares two notes by the order of notes.
func compareNotes(a, b api.BnNote) int {
	return cmp.Or(
		compareNumbers([2]int{a.From, b.From}, [2]int{a.Until, b.Until}, [2]int{a.Kind, b.Kind}),
		cmp.Compare(a.By, b.By),
		compareNumbers([2]int{a.Number, b.Number}, [2]int{a.Rev, b.Rev}, [2]int{a.Missing.Lo, b.Missing.Lo}, [2]int{a.Missing.Hi, b.Missing.Hi}),
	)
}

// compareNumbers compares by the first two numbers that differ.
func compareNumbers(pairs ...[2]int) int {
	for _, p := range pairs {
		if p[0] != p[1] {
			return cmp.Compare(p[0], p[1])
		}
	}
	return 0
}
