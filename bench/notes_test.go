package bench

import (
	"cmp"
	"fmt"
	"math"
	"math/rand/v2"
	"slices"
	"strings"
	"testing"

	"telecine/api"
)

// sortKey returns a string by which notes without an error are in order.
func sortKey(n api.BnNote) string {
	return fmt.Sprintf("%06d %06d %d %-24s %03d %02d %06d %06d", n.From, n.Until, n.Kind, n.By, n.Number, n.Rev, n.Missing.Lo, n.Missing.Hi)
}

// slowStand returns the notes that stand, by the definitions.
func slowStand(list []api.BnNote) []api.BnNote {
	var stand []api.BnNote
	for _, n := range list {
		contradicted := slices.ContainsFunc(list, func(m api.BnNote) bool {
			return m.By == n.By && m.Number == n.Number && (m.Rev > n.Rev || m.Rev == n.Rev && m != n)
		})
		if !contradicted && !slices.Contains(stand, n) {
			stand = append(stand, n)
		}
	}
	slices.SortFunc(stand, func(a, b api.BnNote) int { return strings.Compare(sortKey(a), sortKey(b)) })
	return stand
}

// noted is a change of a note, and the error of the note then.
type noted struct {
	change func(n *api.BnNote)
	e      api.Errno
}

// noteErrors are changes of a tear from 3 to 4 of ada, its note 2.
func noteErrors() []noted {
	return []noted{
		{func(n *api.BnNote) {}, api.OK},
		{func(n *api.BnNote) { n.By = "" }, api.ErrForm},
		{func(n *api.BnNote) { n.By = "Ada" }, api.ErrForm},
		{func(n *api.BnNote) { n.By = "ada--2" }, api.ErrForm},
		{func(n *api.BnNote) { n.By = strings.Repeat("a", 24) }, api.OK},
		{func(n *api.BnNote) { n.By = strings.Repeat("a", 25) }, api.ErrForm},
		{func(n *api.BnNote) { n.By, n.Kind, n.Number, n.Until = "-", 9, 0, 1 }, api.ErrForm},
		{func(n *api.BnNote) { n.Kind = 0 }, api.ErrArg},
		{func(n *api.BnNote) { n.Kind = 4 }, api.ErrArg},
		{func(n *api.BnNote) { n.Kind = -1 }, api.ErrArg},
		{func(n *api.BnNote) { n.Kind, n.Number = 4, 0 }, api.ErrArg},
		{func(n *api.BnNote) { n.Kind = api.BnLeader }, api.OK},
		{func(n *api.BnNote) { n.Number = 0 }, api.ErrRange},
		{func(n *api.BnNote) { n.Number = 1 }, api.OK},
		{func(n *api.BnNote) { n.Number = 999 }, api.OK},
		{func(n *api.BnNote) { n.Number = 1000 }, api.ErrRange},
		{func(n *api.BnNote) { n.Rev = -1 }, api.ErrRange},
		{func(n *api.BnNote) { n.Rev = 99 }, api.OK},
		{func(n *api.BnNote) { n.Rev = 100 }, api.ErrRange},
		{func(n *api.BnNote) { n.From = -1 }, api.ErrRange},
		{func(n *api.BnNote) { n.From = 0 }, api.OK},
		{func(n *api.BnNote) { n.From = 4 }, api.OK},
		{func(n *api.BnNote) { n.From = 5 }, api.ErrArg},
		{func(n *api.BnNote) { n.From = 200000 }, api.ErrRange},
		{func(n *api.BnNote) { n.Until = 200000 }, api.ErrRange},
		{func(n *api.BnNote) { n.Until = math.MaxInt }, api.ErrRange},
		{func(n *api.BnNote) { n.Until = -1 }, api.ErrRange},
		{func(n *api.BnNote) { n.Until = 2 }, api.ErrArg},
		{func(n *api.BnNote) { n.Missing.Lo = -1 }, api.ErrRange},
		{func(n *api.BnNote) { n.Missing.Hi = -1 }, api.ErrRange},
		{func(n *api.BnNote) { n.Missing.Hi = 400001 }, api.ErrRange},
		{func(n *api.BnNote) { n.Missing.Hi, n.Rev = 1, 100 }, api.ErrRange},
		{func(n *api.BnNote) { n.Missing.Hi = 1 }, api.ErrArg},
		{func(n *api.BnNote) { n.Missing = span(1, 1) }, api.ErrArg},
		{func(n *api.BnNote) { n.Missing.Lo = 1 }, api.ErrArg},
		{func(n *api.BnNote) { n.Kind, n.Missing.Hi = api.BnLeader, 400000 }, api.ErrArg},
		{func(n *api.BnNote) { n.Kind = api.BnSplice }, api.ErrArg},
		{func(n *api.BnNote) { n.Kind, n.From = api.BnSplice, 4 }, api.OK},
		{func(n *api.BnNote) { *n = splice("ada", 2, 4, 0, 400000) }, api.OK},
		{func(n *api.BnNote) { *n = splice("ada", 2, 4, 400000, 400000) }, api.OK},
		{func(n *api.BnNote) { *n = splice("ada", 2, 4, 0, 400001) }, api.ErrRange},
		{func(n *api.BnNote) { *n = splice("ada", 2, 4, 400001, 400001) }, api.ErrRange},
		{func(n *api.BnNote) { *n = splice("ada", 2, 4, 400001, 0) }, api.ErrRange},
		{func(n *api.BnNote) { *n = splice("ada", 2, 4, -1, 3) }, api.ErrRange},
		{func(n *api.BnNote) { *n = splice("ada", 2, 4, 7, 6) }, api.ErrArg},
		{func(n *api.BnNote) { *n = splice("ada", 2, 4, 7, 6); n.Until = 3 }, api.ErrArg},
		{func(n *api.BnNote) { *n = splice("ada", 2, 4, 7, 7); n.Until = 3 }, api.ErrArg},
	}
}

// P5.1: the error of a note, of all that it can have.
func TestMergeNoteErrors(t *testing.T) {
	for i, c := range noteErrors() {
		n := tear("ada", 2, 3, 4)
		c.change(&n)
		var want []api.BnNote
		if c.e == api.OK {
			want = []api.BnNote{n}
		}
		if l, e := Merge([][]api.BnNote{nil, {n}}); !slices.Equal(l, want) || e != c.e {
			t.Errorf("%d: Merge of %+v = %v, %d; want %d", i, n, l, e, c.e)
		}
	}
}

// P5.1: how many lists and notes there may be, and which of several errors is returned.
func TestMergeErrors(t *testing.T) {
	a, form, kind := tear("ada", 1, 3, 3), tear("", 1, 3, 3), api.BnNote{By: "ada", Kind: 4}
	many := func(by string, count int) []api.BnNote {
		var list []api.BnNote
		for i := range count {
			list = append(list, tear(by, i+1, i, i))
		}
		return list
	}
	for i, c := range []struct {
		lists [][]api.BnNote
		count int
		e     api.Errno
	}{
		{nil, 0, api.OK},
		{[][]api.BnNote{{}, nil}, 0, api.OK},
		{make([][]api.BnNote, 8), 0, api.OK},
		{make([][]api.BnNote, 9), 0, api.ErrLong},
		{append(make([][]api.BnNote, 8), []api.BnNote{form}), 0, api.ErrLong},
		{[][]api.BnNote{many("ada", 60)}, 60, api.OK},
		{[][]api.BnNote{many("ada", 61)}, 0, api.ErrLong},
		{[][]api.BnNote{slices.Repeat([]api.BnNote{a}, 61)}, 0, api.ErrLong},
		{[][]api.BnNote{slices.Repeat([]api.BnNote{form}, 61)}, 0, api.ErrLong},
		{[][]api.BnNote{many("ada", 60), many("ada", 60)}, 60, api.OK},
		{[][]api.BnNote{many("ada", 30), many("ben", 30)}, 60, api.OK},
		{[][]api.BnNote{many("ada", 30), many("ben", 31)}, 0, api.ErrLong},
		// Those that do not stand are not counted.
		{[][]api.BnNote{many("ada", 30), many("ben", 31), {tear("ben", 7, 9, 9)}}, 60, api.OK},
		{[][]api.BnNote{{a, form, kind}}, 0, api.ErrForm},
		{[][]api.BnNote{{a, kind, form}}, 0, api.ErrArg},
		{[][]api.BnNote{{a}, {a, kind}, {form}}, 0, api.ErrArg},
		{[][]api.BnNote{{a}, {kind}, many("ben", 61)}, 0, api.ErrArg},
		{[][]api.BnNote{{a}, many("ben", 61), {kind}}, 0, api.ErrLong},
		{[][]api.BnNote{many("ada", 60), many("ben", 60), {kind}}, 0, api.ErrArg},
		{[][]api.BnNote{{revised(a, 5), {By: "ada", Number: 1, Kind: 4}}}, 0, api.ErrArg},
	} {
		l, e := Merge(c.lists)
		if len(l) != c.count || e != c.e {
			t.Errorf("%d: Merge = %v, %d; want %d notes, %d", i, l, e, c.count, c.e)
		}
	}
}

// P5.1: which notes stand: those with the greatest revision, if they are all equal.
func TestMergeStanding(t *testing.T) {
	a, b := splice("ada", 1, 5, 1, 2), splice("ada", 1, 5, 1, 3)
	for i, c := range []struct {
		lists [][]api.BnNote
		want  []api.BnNote
	}{
		{[][]api.BnNote{{a}, {a, a}, {a}}, []api.BnNote{a}},
		{[][]api.BnNote{{a}, {b}}, nil},
		{[][]api.BnNote{{a, b, a}}, nil},
		{[][]api.BnNote{{b, a, a, a}}, nil},
		{[][]api.BnNote{{a}, {revised(a, 1)}}, []api.BnNote{revised(a, 1)}},
		{[][]api.BnNote{{revised(b, 1)}, {a}}, []api.BnNote{revised(b, 1)}},
		{[][]api.BnNote{{a, b}, {revised(b, 1)}}, []api.BnNote{revised(b, 1)}},
		{[][]api.BnNote{{revised(b, 1), a, b}}, []api.BnNote{revised(b, 1)}},
		{[][]api.BnNote{{revised(a, 99), revised(b, 99), revised(a, 98)}, {b}}, nil},
		{[][]api.BnNote{{revised(a, 99), revised(b, 98), revised(a, 98)}, {revised(a, 99)}}, []api.BnNote{revised(a, 99)}},
		// What differs may be any part of the note; another name or number is another note.
		{[][]api.BnNote{{tear("ada", 1, 3, 4), leader("ada", 1, 3, 4)}}, nil},
		{[][]api.BnNote{{tear("ada", 1, 3, 4), tear("ada", 1, 2, 4)}}, nil},
		{[][]api.BnNote{{tear("ada", 1, 3, 4), tear("ada", 1, 3, 5)}}, nil},
		{[][]api.BnNote{{a, splice("ada", 1, 5, 0, 2)}}, nil},
		{[][]api.BnNote{{a, tear("ben", 1, 3, 4), tear("ada", 2, 3, 4)}}, []api.BnNote{tear("ada", 2, 3, 4), tear("ben", 1, 3, 4), a}},
	} {
		if l, e := Merge(c.lists); !slices.Equal(l, c.want) || e != api.OK {
			t.Errorf("%d: Merge = %v, %d; want %v", i, l, e, c.want)
		}
	}
}

// P5.1: notes are in order, each of these ahead of the one behind it by the first of the parts that differ.
func TestMergeOrder(t *testing.T) {
	want := []api.BnNote{
		tear("zoe", 9, 3, 9), splice("ada", 2, 4, 0, 0), splice("zoe", 8, 4, 5, 9), tear("zoe", 7, 4, 4), leader("ada", 6, 4, 4), leader("ada-b", 1, 4, 4), leader("ada2", 1, 4, 4), leader("adam", 1, 4, 4),
		leader("ben", 2, 4, 4), leader("ben", 10, 4, 4), leader("ben", 11, 4, 4), tear("ada", 5, 4, 5), tear("ada", 4, 4, 11), splice("ada", 1, 10, 7, 7), splice("ada", 3, 10, 6, 6), tear("ada", 7, 100, 100),
	}
	d := dice(1)
	for range 200 {
		list := slices.Clone(want)
		d.Shuffle(len(list), func(i, j int) { list[i], list[j] = list[j], list[i] })
		if l, e := Merge([][]api.BnNote{list[:7], list[7:]}); !slices.Equal(l, want) || e != api.OK {
			t.Fatalf("Merge of %v = %v, %d", list, l, e)
		}
	}
}

// The order of notes goes on where those that stand cannot be the same: by revisions, and by what is missing.
func TestCompareNotes(t *testing.T) {
	list := []api.BnNote{splice("ada", 1, 5, 2, 4), splice("ada", 1, 5, 2, 5), splice("ada", 1, 5, 3, 3), revised(splice("ada", 1, 5, 0, 0), 1)}
	for i, a := range list {
		for j, b := range list {
			if n := compareNotes(a, b); n != cmp.Compare(i, j) {
				t.Errorf("%v and %v: %d", a, b, n)
			}
		}
	}
}

// shuffled returns lists in another order, each in another order, with some notes once more.
func shuffled(d *rand.Rand, lists [][]api.BnNote) [][]api.BnNote {
	var all [][]api.BnNote
	for _, list := range lists {
		list = slices.Clone(list)
		for range d.IntN(3) {
			if len(list) > 0 {
				list = append(list, list[d.IntN(len(list))])
			}
		}
		d.Shuffle(len(list), func(i, j int) { list[i], list[j] = list[j], list[i] })
		all = append(all, list)
	}
	d.Shuffle(len(all), func(i, j int) { all[i], all[j] = all[j], all[i] })
	return all
}

// P5.1, P5.8 and DOC's P7: the notes that stand are those of the definition; Merge returns the same for lists in any order, each in any order, with any notes several times; merging what was merged with the same lists once more changes nothing.
func TestOneList(t *testing.T) {
	d := dice(8)
	stand, not := 0, 0
	for range 5000 {
		var lists [][]api.BnNote
		for range from(d, 0, 7) {
			lists = append(lists, anyNotes(d, 20, 6))
		}
		want := slowStand(slices.Concat(lists...))
		l, e := Merge(lists)
		if !slices.Equal(l, want) || e != api.OK {
			t.Fatalf("Merge of %v = %v, %d; want %v", lists, l, e, want)
		}
		other := shuffled(d, lists)
		if m, e := Merge(other); !slices.Equal(m, l) || e != api.OK {
			t.Fatalf("Merge of %v = %v, of %v = %v, %d", lists, l, other, m, e)
		}
		again := slices.Insert(other, d.IntN(len(other)+1), l)
		if m, e := Merge(again); !slices.Equal(m, l) || e != api.OK {
			t.Fatalf("Merge of %v = %v, and once more %v, %d", lists, l, m, e)
		}
		stand += len(l)
		not += len(slices.Concat(lists...)) - len(l)
	}
	if stand < 5000 || not < 5000 {
		t.Errorf("%d stand, and %d not", stand, not)
	}
}
