package align

import (
	"slices"
	"testing"

	"telecine/api"
)

// expectBest holds Best against what is wanted.
func expectBest(t *testing.T, a, b api.AlElement, slack, worth, many int) {
	t.Helper()
	if n, k, e := Best(a, b, slack); n != worth || k != many || e != api.OK {
		t.Errorf("Best of %v and %v with %d = %d, %d, %d; want %d, %d", a.Shots, b.Shots, slack, n, k, e, worth, many)
	}
}

// expectAll holds All against what is wanted.
func expectAll(t *testing.T, a, b api.AlElement, slack, most int, want ...[]api.AlPair) {
	t.Helper()
	l, e := All(a, b, slack, most)
	if !slices.EqualFunc(l, want, slices.Equal[[]api.AlPair]) || e != api.OK {
		t.Errorf("All of %v and %v with %d, at most %d = %v, %d; want %v", a.Shots, b.Shots, slack, most, l, e, want)
	}
}

// expectSurely holds Surely against what is wanted.
func expectSurely(t *testing.T, a, b api.AlElement, slack int, sure, may []api.AlPair) {
	t.Helper()
	x, y, e := Surely(a, b, slack)
	if !slices.Equal(x, sure) || !slices.Equal(y, may) || e != api.OK {
		t.Errorf("Surely of %v and %v with %d = %v, %v, %d; want %v, %v", a.Shots, b.Shots, slack, x, y, e, sure, may)
	}
}

// expectJudge holds Judge against what is wanted.
func expectJudge(t *testing.T, a, b api.AlElement, slack int, l []api.AlPair, worth int, want api.Errno) {
	t.Helper()
	if n, e := Judge(a, b, slack, l); n != worth || e != want {
		t.Errorf("Judge of %v and %v with %d by %v = %d, %d; want %d, %d", a.Shots, b.Shots, slack, l, n, e, worth, want)
	}
}

// P6.2, P6.3 and P6.4: which two shots can be the same, and what they share.
func TestShare(t *testing.T) {
	for i, c := range []struct {
		a, b         api.AlShot
		slack, worth int
	}{
		{shot(7, 10), shot(7, 10), 0, 10}, {shot(7, 10), shot(7, 12), 2, 10}, {shot(7, 12), shot(7, 10), 2, 10}, {shot(7, 12), shot(7, 10), 1, 0}, {shot(7, 10), shot(7, 12), 1, 0},
		{shot(7, 10), shot(8, 10), 0, 0}, {shot(7, 10), shot(8, 10), 200000, 0}, {shot(0, 10), shot(8, 10), 0, 5}, {shot(8, 10), shot(0, 10), 0, 5}, {shot(0, 10), shot(0, 10), 0, 5}, {shot(0, 10), shot(0, 11), 0, 0},
		{shot(0, 11), shot(0, 11), 0, 5}, {shot(0, 11), shot(3, 15), 4, 5}, {shot(0, 15), shot(3, 12), 3, 6}, {shot(0, 1), shot(0, 1), 0, 1}, {shot(0, 1), shot(3, 3), 2, 1}, {shot(0, 2), shot(3, 3), 2, 1}, {shot(0, 3), shot(0, 3), 0, 1}, {shot(0, 4), shot(0, 4), 0, 2},
		{shot(999, 1), shot(999, 1), 0, 1}, {shot(999, 1), shot(999, 200000), 199998, 0}, {shot(999, 1), shot(999, 200000), 199999, 1}, {shot(0, 200000), shot(0, 200000), 200000, 100000},
	} {
		a, b := element("a", c.a), element("b", c.b)
		if c.worth == 0 {
			expectBest(t, a, b, c.slack, 0, 1)
			expectAll(t, a, b, c.slack, 1, nil)
			expectSurely(t, a, b, c.slack, nil, nil)
			expectJudge(t, a, b, c.slack, pairs(0, 0), 0, api.AlErrPair)
		} else {
			expectBest(t, a, b, c.slack, c.worth, 1)
			expectAll(t, a, b, c.slack, 1, pairs(0, 0))
			expectSurely(t, a, b, c.slack, pairs(0, 0), pairs(0, 0))
			expectJudge(t, a, b, c.slack, pairs(0, 0), c.worth, api.OK)
		}
		expectJudge(t, a, b, c.slack, nil, 0, api.OK)
		if t.Failed() {
			t.Fatalf("pair %d", i)
		}
	}
}

// blocks returns an element with so many shots without marks of each of some numbers of frames, one number after the other.
func blocks(name string, counts ...int) api.AlElement {
	x := element(name)
	for i, n := range counts {
		x.Shots = append(x.Shots, alike(name, n, 10*(i+1)).Shots...)
	}
	return x
}

// P6.2: how many best alignments there are, at most a million.
func TestMany(t *testing.T) {
	full, none := alike("full", 40, 5), element("none")
	expectBest(t, none, none, 0, 0, 1)
	expectBest(t, full, none, 0, 0, 1)
	expectBest(t, none, full, 200000, 0, 1)
	expectBest(t, full, full, 0, 80, 1)
	for i, many := range []int{1, 40, 780, 9880, 91390, 658008, 1000000, 1000000} {
		expectBest(t, full, alike("few", i, 5), 0, 2*i, many)
		expectBest(t, alike("few", i, 5), full, 0, 2*i, many)
	}
	expectBest(t, full, alike("half", 20, 5), 0, 40, 1000000)
	expectBest(t, full, alike("most", 35, 5), 0, 70, 658008)
	expectBest(t, full, alike("most", 34, 5), 0, 68, 1000000)
	// With no slack each block has its own ways: just a million, then one block less, and more.
	expectBest(t, blocks("a", 5, 5, 5, 5, 5, 5), blocks("b", 2, 2, 2, 2, 2, 2), 0, 210, 1000000)
	expectBest(t, blocks("a", 5, 5, 5, 5, 5, 9), blocks("b", 2, 2, 2, 2, 2, 1), 0, 180, 900000)
	expectBest(t, blocks("a", 5, 5, 5, 5, 5, 11), blocks("b", 2, 2, 2, 2, 2, 1), 0, 180, 1000000)
	expectBest(t, blocks("a", 3, 5, 8, 6, 7, 11), blocks("b", 1, 3, 1, 4, 1, 1), 0, 185, 3*10*8*15*7*11)
	// The worth can be as great as all frames of one element.
	expectBest(t, alike("a", 40, 200000), alike("b", 40, 200000), 0, 4000000, 1)
	big := element("big")
	for i := range 40 {
		big.Shots = append(big.Shots, shot(960+i, 200000))
	}
	expectBest(t, big, big, 0, 8000000, 1)
}

// P6.2, P6.3: shots whose marks are known count more than those of which they are not, and more frames than more pairs.
func TestBestAll(t *testing.T) {
	x := element("x", shot(1, 10), shot(2, 10))
	expectAll(t, x, element("y", shot(2, 10), shot(1, 10)), 0, 9, pairs(0, 1), pairs(1, 0))
	expectAll(t, x, element("y", shot(2, 10), shot(0, 10)), 0, 9, pairs(1, 0))
	expectAll(t, x, element("y", shot(0, 10), shot(1, 10)), 0, 9, pairs(0, 1))
	expectAll(t, x, element("y", shot(2, 9), shot(1, 10)), 1, 9, pairs(0, 1))
	expectAll(t, x, element("y", shot(0, 10), shot(1, 10), shot(0, 10)), 0, 9, pairs(0, 1, 1, 2))
	expectAll(t, x, element("y", shot(0, 10), shot(0, 10), shot(0, 10)), 0, 9, pairs(0, 0, 1, 1), pairs(0, 0, 1, 2), pairs(0, 1, 1, 2))
	// A shot that is one of two others, or stays alone.
	l := []api.AlElement{element("a", shot(0, 6), shot(5, 6)), element("b", shot(5, 6), shot(0, 6))}
	expectBest(t, l[0], l[1], 0, 6, 2)
	expectAll(t, l[0], l[1], 0, 9, pairs(0, 0, 1, 1), pairs(1, 0))
	expectAll(t, l[0], l[1], 0, 1, pairs(0, 0, 1, 1))
	expectSurely(t, l[0], l[1], 0, nil, pairs(0, 0, 1, 0, 1, 1))
}

// P6.3: how many are asked for.
func TestMost(t *testing.T) {
	full, one := alike("full", 40, 5), alike("one", 1, 5)
	var want [][]api.AlPair
	for i := range 40 {
		want = append(want, pairs(i, 0))
		expectAll(t, full, one, 0, i+1, want...)
	}
	expectAll(t, full, one, 0, 41, want...)
	expectAll(t, full, one, 0, 200, want...)
	if l, e := All(full, alike("half", 20, 5), 0, 200); len(l) != 200 || e != api.OK {
		t.Errorf("All = %d, %d", len(l), e)
	}
	for _, most := range []int{-1, 0, 201} {
		if l, e := All(full, one, 0, most); l != nil || e != api.ErrRange {
			t.Errorf("All, at most %d = %v, %d", most, l, e)
		}
	}
}

// P6.2 to P6.5: a slack that is not as stated comes after the elements, and before pairs.
func TestSlack(t *testing.T) {
	l := example()
	for _, slack := range []int{-1, 200001} {
		if e := ofTwo(l[0], l[1], slack, 1, pairs(-1, 0, 1, 1)); e != all(api.ErrRange) {
			t.Errorf("with %d: %v", slack, e)
		}
	}
	for _, slack := range []int{0, 1, 199999, 200000} {
		if e := ofTwo(l[0], l[1], slack, 1, nil); e != all(api.OK) {
			t.Errorf("with %d: %v", slack, e)
		}
	}
}

// P6.4: pairs that are sure between those that are not, and the pairs that may be, by Left and then by Right.
func TestSurely(t *testing.T) {
	x := element("x", shot(1, 10), shot(0, 10), shot(2, 10))
	y := element("y", shot(1, 10), shot(3, 10), shot(4, 10), shot(2, 10))
	expectSurely(t, x, y, 0, pairs(0, 0, 2, 3), pairs(0, 0, 1, 1, 1, 2, 2, 3))
	expectSurely(t, y, x, 0, pairs(0, 0, 3, 2), pairs(0, 0, 1, 1, 2, 1, 3, 2))
	expectSurely(t, blocks("a", 2, 1, 2), blocks("b", 1, 1, 1), 0, pairs(2, 1), pairs(0, 0, 1, 0, 2, 1, 3, 2, 4, 2))
	expectSurely(t, alike("a", 3, 5), alike("b", 2, 5), 0, nil, pairs(0, 0, 1, 0, 1, 1, 2, 1))
	expectSurely(t, alike("a", 40, 5), element("b"), 0, nil, nil)
	var diagonal []api.AlPair
	for i := range 40 {
		diagonal = append(diagonal, api.AlPair{Left: i, Right: i})
	}
	expectSurely(t, alike("a", 40, 5), alike("b", 40, 5), 0, diagonal, diagonal)
	// More best alignments than can be counted: only the first pair and the last one are sure.
	a, b := blocks("a", 1, 38, 1), blocks("b", 1, 19, 1)
	sure, may, e := Surely(a, b, 0)
	if !slices.Equal(sure, pairs(0, 0, 39, 20)) || len(may) != 2+19*20 || e != api.OK {
		t.Errorf("Surely = %v, %d, %d", sure, len(may), e)
	}
}

// P6.5: pairs that are none, and pairs that are no alignment.
func TestJudge(t *testing.T) {
	l := example()
	for _, c := range []struct {
		slack int
		l     []api.AlPair
		worth int
		e     api.Errno
	}{
		{10, nil, 0, api.OK}, {10, pairs(0, 0, 2, 1, 3, 2), 205, api.OK}, {10, pairs(1, 2), 25, api.OK}, {10, pairs(2, 1), 80, api.OK}, {10, pairs(0, 0, 3, 2), 125, api.OK},
		{10, pairs(-1, 0), 0, api.ErrArg}, {10, pairs(0, -1), 0, api.ErrArg}, {10, pairs(4, 0), 0, api.ErrArg}, {10, pairs(0, 4), 0, api.ErrArg},
		{10, pairs(2, 1, 0, 0, 4, 0), 0, api.ErrArg}, {10, pairs(1, 1, 0, 4), 0, api.ErrArg},
		{10, pairs(2, 1, 0, 0), 0, api.AlErrPair}, {10, pairs(0, 0, 0, 0), 0, api.AlErrPair}, {20, pairs(1, 2, 3, 2), 0, api.AlErrPair}, {200, pairs(1, 2, 2, 1), 0, api.AlErrPair}, {200, pairs(0, 0, 1, 2, 2, 1), 0, api.AlErrPair}, {200, pairs(2, 1, 2, 2), 0, api.AlErrPair},
		{3, pairs(0, 0), 0, api.AlErrPair}, {4, pairs(0, 0), 96, api.OK}, {1, pairs(2, 1, 3, 2), 0, api.AlErrPair}, {2, pairs(2, 1, 3, 2), 109, api.OK},
		{10, pairs(0, 0, 1, 1), 0, api.AlErrPair}, {200, pairs(3, 3), 0, api.AlErrPair},
	} {
		expectJudge(t, l[0], l[1], c.slack, c.l, c.worth, c.e)
	}
	full := alike("full", 40, 5)
	var diagonal []api.AlPair
	for i := range 40 {
		diagonal = append(diagonal, api.AlPair{Left: i, Right: i})
	}
	expectJudge(t, full, full, 0, diagonal, 80, api.OK)
	expectJudge(t, full, full, 0, append(diagonal, diagonal[39]), 0, api.AlErrPair)
	expectJudge(t, full, element("none"), 0, pairs(0, 0), 0, api.ErrArg)
	expectJudge(t, element("none"), full, 0, pairs(0, 0), 0, api.ErrArg)
}
