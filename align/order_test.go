package align

import (
	"math/rand/v2"
	"slices"
	"strconv"
	"testing"

	"telecine/api"
)

// expectWhole holds Whole of elements that do not contradict each other against what is wanted; Round of them is empty.
func expectWhole(t *testing.T, l []api.AlElement, marks []int, only bool) {
	t.Helper()
	if w, o, e := Whole(l); !slices.Equal(w, marks) || o != only || e != api.OK {
		t.Errorf("Whole of %v = %v, %t, %d; want %v, %t", l, w, o, e, marks, only)
	}
	if r, e := Round(l); len(r) != 0 || e != api.OK {
		t.Errorf("Round of %v = %v, %d; want none", l, r, e)
	}
}

// expectRound holds Round of elements that contradict each other against what is wanted; there is no whole of them.
func expectRound(t *testing.T, l []api.AlElement, round ...int) {
	t.Helper()
	if r, e := Round(l); !slices.Equal(r, round) || e != api.OK {
		t.Errorf("Round of %v = %v, %d; want %v", l, r, e, round)
	}
	if w, o, e := Whole(l); w != nil || o || e != api.AlErrRound {
		t.Errorf("Whole of %v = %v, %t, %d", l, w, o, e)
	}
}

// lists returns elements with the marks of each list.
func lists(marks ...[]int) (l []api.AlElement) {
	for i, m := range marks {
		l = append(l, listed("e"+strconv.Itoa(i), m...))
	}
	return l
}

// P6.6: wholes, and whether they are the only order.
func TestWhole(t *testing.T) {
	for _, c := range []struct {
		l     []api.AlElement
		marks []int
		only  bool
	}{
		{nil, nil, true}, {lists(nil), nil, true}, {lists(nil, []int{0, 0}, nil), nil, true}, {lists([]int{7}), []int{7}, true}, {lists([]int{7}, []int{7}), []int{7}, true}, {lists([]int{999}, []int{1}), []int{1, 999}, false},
		{lists([]int{3, 1, 2}), []int{3, 1, 2}, true}, {lists([]int{0, 3, 0, 0, 1, 0}), []int{3, 1}, true},
		// The least one that can be next, whatever element it is in.
		{lists([]int{9, 2}, []int{7, 1}), []int{7, 1, 9, 2}, false}, {lists([]int{5, 1}, []int{6, 1}), []int{5, 6, 1}, false}, {lists([]int{1, 5}, []int{1, 4}), []int{1, 4, 5}, false},
		{lists([]int{8, 3}, []int{8, 3}, []int{3, 8}[:1]), []int{8, 3}, true},
		// Only together, or only through marks of others.
		{lists([]int{1, 3}, []int{3, 2}), []int{1, 3, 2}, true}, {lists([]int{1, 2}, []int{2, 3}, []int{1, 3}), []int{1, 2, 3}, true}, {lists([]int{1, 3}, []int{1, 2, 3}), []int{1, 2, 3}, true}, {lists([]int{1, 2, 4}, []int{1, 3, 4}), []int{1, 2, 3, 4}, false}, {lists([]int{1, 2, 4}, []int{1, 3, 4}, []int{3, 2}), []int{1, 3, 2, 4}, true},
		// The last marks, or the first ones, have no order.
		{lists([]int{1, 2, 3}, []int{2, 4}), []int{1, 2, 3, 4}, false}, {lists([]int{2, 3, 4}, []int{1, 3}), []int{1, 2, 3, 4}, false},
	} {
		expectWhole(t, c.l, c.marks, c.only)
	}
}

// P6.6: rounds: the shortest one, and of several that which comes first from its least mark on.
func TestRound(t *testing.T) {
	for _, c := range []struct {
		l     []api.AlElement
		round []int
	}{
		{lists([]int{1, 2}, []int{2, 1}), []int{1, 2}}, {lists([]int{2, 1}, []int{1, 2}), []int{1, 2}}, {lists([]int{1, 2}, []int{2, 3}, []int{3, 1}), []int{1, 2, 3}}, {lists([]int{3, 2}, []int{2, 1}, []int{1, 3}), []int{1, 3, 2}},
		// Marks with shots between that nobody knows are directly before each other; those with others between are not.
		{lists([]int{1, 0, 2}, []int{0, 2, 0, 0, 1}), []int{1, 2}}, {lists([]int{1, 2, 3}, []int{3, 1}), []int{1, 2, 3}}, {lists([]int{1, 2}, []int{2, 3, 1}), []int{1, 2, 3}}, {lists([]int{1, 2, 3, 4}, []int{4, 1}, []int{3, 1}), []int{1, 2, 3}},
		// The shortest one, also if a longer one has a lesser mark.
		{lists([]int{1, 2, 3}, []int{3, 1}, []int{8, 9}, []int{9, 8}), []int{8, 9}}, {lists([]int{1, 2, 3, 4}, []int{4, 1}, []int{4, 2}), []int{2, 3, 4}}, {lists([]int{1, 2, 3}, []int{3, 2}, []int{2, 1}), []int{1, 2}},
		// Of the same length: the lesser least mark, and then the lesser ones behind it, wherever they are.
		{lists([]int{8, 9}, []int{9, 8}, []int{6, 7}, []int{7, 6}), []int{6, 7}}, {lists([]int{5, 9}, []int{9, 5}, []int{5, 7}, []int{7, 5}), []int{5, 7}},
		{lists([]int{1, 2, 8}, []int{8, 1, 3, 4}, []int{4, 1}), []int{1, 2, 8}}, {lists([]int{1, 3, 4}, []int{4, 1, 2, 8}, []int{8, 1}), []int{1, 2, 8}}, {lists([]int{1, 3, 2, 4}, []int{4, 1}, []int{1, 2}, []int{3, 4}), []int{1, 2, 4}},
		{lists([]int{1, 5, 3, 7}, []int{7, 1}, []int{5, 2, 7}, []int{1, 4, 2}), []int{1, 4, 2, 7}}, {lists([]int{1, 4, 6, 7}, []int{7, 1}, []int{4, 5, 7}), []int{1, 4, 5, 7}},
		// Other marks come before and behind it.
		{lists([]int{1, 5, 6, 2}, []int{3, 6, 5, 4}), []int{5, 6}},
	} {
		expectRound(t, c.l, c.round...)
	}
}

// ring returns as many elements with as many shots as there can be, each of which ends with the mark with which the next one begins; the marks are those of an order.
func ring(order []int) (l []api.AlElement) {
	const step = api.MaxAlShots - 1
	for i := range api.MaxAlElements {
		x := listed("ring" + strconv.Itoa(i))
		for j := range api.MaxAlShots {
			x.Shots = append(x.Shots, shot(order[(i*step+j)%(api.MaxAlElements*step)], 1))
		}
		l = append(l, x)
	}
	return l
}

// P6.6: as many marks as there can be: in one round, in one order, and in none.
func TestManyMarks(t *testing.T) {
	const marks = api.MaxAlElements * (api.MaxAlShots - 1)
	d := dice(6)
	for range 10 {
		order := d.Perm(api.MaxAlMark)[:marks]
		for i := range order {
			order[i]++
		}
		least := slices.Index(order, slices.Min(order))
		l := ring(order)
		expectRound(t, l, slices.Concat(order[least:], order[:least])...)
		// Without its last shot the last element does not come back to the first one.
		l[7].Shots = l[7].Shots[:39]
		expectWhole(t, l, order, true)
		slices.Reverse(l)
		expectWhole(t, l, order, true)
	}
	var apart []api.AlElement
	var all []int
	for i := range api.MaxAlElements {
		x := listed("apart" + strconv.Itoa(i))
		for j := range api.MaxAlShots {
			x.Shots = append(x.Shots, shot(1+i+8*j, 1))
			all = append(all, 1+len(all))
		}
		apart = append(apart, x)
	}
	expectWhole(t, apart, all, false)
}

// slowOrder is the order of the marks of some elements, by the definitions: which come before which, and which directly.
type slowOrder struct {
	marks            []int
	before, directly map[[2]int]bool
}

// orderOf returns the order of marks.
func orderOf(l []api.AlElement) slowOrder {
	x := slowOrder{nil, map[[2]int]bool{}, map[[2]int]bool{}}
	for _, y := range l {
		var marks []int
		for _, s := range y.Shots {
			if s.Mark > 0 {
				marks = append(marks, s.Mark)
			}
		}
		for i := range marks {
			for j := i + 1; j < len(marks); j++ {
				x.before[[2]int{marks[i], marks[j]}] = true
				x.directly[[2]int{marks[i], marks[j]}] = x.directly[[2]int{marks[i], marks[j]}] || j == i+1
			}
		}
		x.marks = append(x.marks, marks...)
	}
	slices.Sort(x.marks)
	x.marks = slices.Compact(x.marks)
	for _, m := range x.marks {
		for _, a := range x.marks {
			for _, b := range x.marks {
				if x.before[[2]int{a, m}] && x.before[[2]int{m, b}] {
					x.before[[2]int{a, b}] = true
				}
			}
		}
	}
	return x
}

// contradicted reports whether a mark comes before itself.
func (x slowOrder) contradicted() bool {
	return slices.ContainsFunc(x.marks, func(m int) bool { return x.before[[2]int{m, m}] })
}

// whole returns the whole, and whether it is the only order.
func (x slowOrder) whole() (whole []int, only bool) {
	only = true
	for len(whole) < len(x.marks) {
		at := slices.IndexFunc(x.marks, func(m int) bool {
			waits := slices.ContainsFunc(x.marks, func(other int) bool {
				return x.before[[2]int{other, m}] && !slices.Contains(whole, other)
			})
			return !slices.Contains(whole, m) && !waits
		})
		if len(whole) > 0 && !x.before[[2]int{whole[len(whole)-1], x.marks[at]}] {
			only = false
		}
		whole = append(whole, x.marks[at])
	}
	return whole, only
}

// round returns the round that is named, of all rounds from their least marks on, and how many are as short.
func (x slowOrder) round() (round []int, many int) {
	var marks []int
	var grow func()
	grow = func() {
		first, last := marks[0], marks[len(marks)-1]
		if x.directly[[2]int{last, first}] {
			switch {
			case round == nil || len(marks) < len(round):
				round, many = slices.Clone(marks), 1
			case len(marks) == len(round):
				many++
				if slices.Compare(marks, round) < 0 {
					round = slices.Clone(marks)
				}
			}
		}
		for _, m := range x.marks {
			if m > first && x.directly[[2]int{last, m}] && !slices.Contains(marks, m) {
				marks = append(marks, m)
				grow()
				marks = marks[:len(marks)-1]
			}
		}
	}
	for _, m := range x.marks {
		marks = []int{m}
		grow()
	}
	return round, many
}

// anyLists returns some elements, whose shots often have marks that others have: if orderly, all in one order.
func anyLists(d *rand.Rand, orderly bool) (l []api.AlElement) {
	marks := d.Perm(from(d, 1, 9))
	for i := range d.IntN(7) {
		x := listed("e" + strconv.Itoa(i))
		kept := from(d, 1, 4)
		if !orderly && d.IntN(2) == 0 {
			d.Shuffle(len(marks), func(i, j int) { marks[i], marks[j] = marks[j], marks[i] })
		}
		for _, m := range marks {
			if d.IntN(5) == 0 {
				x.Shots = append(x.Shots, shot(0, 1))
			}
			if d.IntN(5) < kept {
				x.Shots = append(x.Shots, shot(1+m*3, 1+d.IntN(3)))
			}
		}
		l = append(l, graded(x, d.IntN(3)))
	}
	return l
}

// P6.6 and DOC's P3: Whole and Round are those of the definitions, of all marks and all rounds.
func TestAllOrders(t *testing.T) {
	d := dice(7)
	var only, several, long, same int
	for range 6000 {
		l := anyLists(d, d.IntN(2) == 0)
		x := orderOf(l)
		if x.contradicted() {
			round, many := x.round()
			expectRound(t, l, round...)
			if len(round) > 2 {
				long++
			}
			if many > 1 {
				same++
			}
		} else {
			marks, is := x.whole()
			expectWhole(t, l, marks, is)
			if is && len(marks) > 2 {
				only++
			} else if !is {
				several++
			}
		}
		if t.Failed() {
			t.FailNow()
		}
	}
	if only < 500 || several < 500 || long < 100 || same < 300 {
		t.Errorf("only, several, long, same: %d, %d, %d, %d", only, several, long, same)
	}
}

// P6.14: in the whole all marks are in the order in which any element has them, each once; of elements that contradict each other a round is returned instead.
func TestOrderIsKept(t *testing.T) {
	d := dice(14)
	var wholes, rounds int
	for range 6000 {
		l := anyLists(d, d.IntN(3) == 0)
		x := orderOf(l)
		w, _, e := Whole(l)
		r, f := Round(l)
		if f != api.OK || (e == api.OK) != (len(r) == 0) || e != api.OK && (e != api.AlErrRound || len(w) != 0) {
			t.Fatalf("of %v Whole = %v, %d; Round = %v, %d", l, w, e, r, f)
		}
		if e == api.OK {
			for p := range x.before {
				if x.before[p] && slices.Index(w, p[0]) >= slices.Index(w, p[1]) {
					t.Fatalf("Whole of %v = %v; %d comes before %d", l, w, p[0], p[1])
				}
			}
			if slices.Sort(w); !slices.Equal(w, x.marks) {
				t.Fatalf("Whole of %v has %v; want %v", l, w, x.marks)
			}
			wholes++
			continue
		}
		for i, m := range r {
			if !x.directly[[2]int{m, r[(i+1)%len(r)]}] || m < r[0] || slices.Contains(r[:i], m) {
				t.Fatalf("Round of %v = %v", l, r)
			}
		}
		rounds++
	}
	if wholes < 2000 || rounds < 800 {
		t.Errorf("wholes, rounds: %d, %d", wholes, rounds)
	}
}

// P6.14: elements that are parts of one list of marks do not contradict each other; with the list itself it is the only order.
func TestPartsOfAList(t *testing.T) {
	d := dice(15)
	for range 1000 {
		whole := d.Perm(api.MaxAlMark)[:d.IntN(api.MaxAlShots+1)]
		for i := range whole {
			whole[i]++
		}
		l := []api.AlElement{listed("whole", whole...)}
		for i := range d.IntN(api.MaxAlElements) {
			kept := from(d, 1, 5)
			x := listed("part" + strconv.Itoa(i))
			for _, m := range whole {
				if d.IntN(5) < kept {
					x.Shots = append(x.Shots, shot(m*min(1, d.IntN(9)), 5))
				}
			}
			l = append(l, x)
		}
		parts := l[1:]
		if _, _, e := Whole(parts); e != api.OK {
			t.Fatalf("Whole of %v: %d", parts, e)
		}
		d.Shuffle(len(l), func(i, j int) { l[i], l[j] = l[j], l[i] })
		expectWhole(t, l, whole, true)
		if t.Failed() {
			t.FailNow()
		}
	}
}
