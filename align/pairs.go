package align

import (
	"iter"
	"slices"

	"telecine/api"
)

// couple is the shots of two elements without an error, and by how much the same shot can differ in them.
type couple struct {
	left, right []api.AlShot
	slack       int
}

// coupleOf returns two elements and a slack that have to be without an error, or their error.
func coupleOf(a, b api.AlElement, slack int) (couple, api.Errno) {
	if e := checkEach(a, b); e != api.OK {
		return couple{}, e
	}
	if !within(slack, 0, api.MaxFrames) {
		return couple{}, api.ErrRange
	}
	return couple{a.Shots, b.Shots, slack}, api.OK
}

// share returns what the two shots of a pair share; 0 if they cannot be the same, since otherwise it is at least 1.
func (c couple) share(p api.AlPair) int {
	a, b := c.left[p.Left], c.right[p.Right]
	known := a.Mark > 0 && b.Mark > 0
	less, more := min(a.Frames, b.Frames), max(a.Frames, b.Frames)
	switch {
	case known && a.Mark != b.Mark || more-less > c.slack:
		return 0
	case known:
		return less
	}
	return max(1, less/2)
}

// turned returns the elements with their last shots first.
func (c couple) turned() couple {
	c.left, c.right = slices.Clone(c.left), slices.Clone(c.right)
	slices.Reverse(c.left)
	slices.Reverse(c.right)
	return c
}

// grid is a number for what is left of two elements from an index of each one on, which can be the one behind its last shot.
type grid [api.MaxAlShots + 1][api.MaxAlShots + 1]int

// table is two elements with the worths of the best alignments of what is left of them.
type table struct {
	couple
	worth grid
}

// table returns the elements with those worths.
func (c couple) table() *table {
	t := &table{couple: c}
	for i := len(c.left) - 1; i >= 0; i-- {
		for j := len(c.right) - 1; j >= 0; j-- {
			with := c.share(api.AlPair{Left: i, Right: j}) + t.worth[i+1][j+1]
			t.worth[i][j] = max(with, t.worth[i+1][j], t.worth[i][j+1])
		}
	}
	return t
}

// partners yields the right shots with which the shot i begins a best alignment of what is left from i and j on.
func (t *table) partners(i, j int) iter.Seq[int] {
	return func(yield func(int) bool) {
		for right := j; right < len(t.right); right++ {
			share := t.share(api.AlPair{Left: i, Right: right})
			if share > 0 && share+t.worth[i+1][right+1] == t.worth[i][j] && !yield(right) {
				return
			}
		}
	}
}

// skips reports whether a best alignment of what is left from i and j on can do without the shot i.
func (t *table) skips(i, j int) bool { return t.worth[i+1][j] == t.worth[i][j] }

// many returns how many best alignments there are, at most MaxAlMany.
func (t *table) many() int {
	var count grid
	for i := len(t.left); i >= 0; i-- {
		for j := range len(t.right) + 1 {
			count[i][j] = min(t.count(&count, i, j), api.MaxAlMany)
		}
	}
	return count[0][0]
}

// count returns how many best alignments there are of what is left from i and j on, by the counts of what is left from i + 1 on.
func (t *table) count(count *grid, i, j int) int {
	if t.worth[i][j] == 0 {
		return 1 // the empty one: each pair is worth something
	}
	sum := 0
	for right := range t.partners(i, j) {
		sum += count[i+1][right+1]
	}
	if t.skips(i, j) {
		sum += count[i+1][j]
	}
	return sum
}

// alignments yields the best alignments, in their order.
func (t *table) alignments() iter.Seq[[]api.AlPair] {
	return func(yield func([]api.AlPair) bool) { t.follow(nil, 0, 0, yield) }
}

// follow yields the best alignments that begin with some pairs and go on with what is left from i and j on, until it is told to stop.
func (t *table) follow(pairs []api.AlPair, i, j int, yield func([]api.AlPair) bool) bool {
	if t.worth[i][j] == 0 {
		return yield(slices.Clone(pairs))
	}
	for right := range t.partners(i, j) {
		if !t.follow(append(pairs, api.AlPair{Left: i, Right: right}), i+1, right+1, yield) {
			return false
		}
	}
	return !t.skips(i, j) || t.follow(pairs, i+1, j, yield)
}

// may returns the pairs that some best alignment has.
func (t *table) may() (pairs []api.AlPair) {
	ahead := t.turned().table()
	for i := range t.left {
		for j := range t.right {
			p := api.AlPair{Left: i, Right: j}
			share := t.share(p)
			worth := ahead.worth[len(t.left)-i][len(t.right)-j] + share + t.worth[i+1][j+1]
			if share > 0 && worth == t.worth[0][0] {
				pairs = append(pairs, p)
			}
		}
	}
	return pairs
}

// ascend reports whether both numbers of a pair are above those of another one.
func ascend(from, to api.AlPair) bool { return from.Left < to.Left && from.Right < to.Right }

// surely returns those pairs that all best alignments have, of all that some of them has. Of two pairs that stand in each other's way neither is sure, since some best alignment has the other one. A pair that is in the way of none of them is sure, since an alignment without it would be worth more with it.
func surely(may []api.AlPair) (sure []api.AlPair) {
	for _, p := range may {
		inWay := func(q api.AlPair) bool { return q != p && !ascend(p, q) && !ascend(q, p) }
		if !slices.ContainsFunc(may, inWay) {
			sure = append(sure, p)
		}
	}
	return sure
}

// Best returns the worth of the best alignments, and how many there are.
func Best(a, b api.AlElement, slack int) (worth int, many int, e api.Errno) {
	c, e := coupleOf(a, b, slack)
	if e != api.OK {
		return 0, 0, e
	}
	t := c.table()
	return t.worth[0][0], t.many(), api.OK
}

// All returns the first ones of the best alignments.
func All(a, b api.AlElement, slack, most int) ([][]api.AlPair, api.Errno) {
	c, e := coupleOf(a, b, slack)
	if e != api.OK {
		return nil, e
	}
	if !within(most, 1, api.MaxAlAll) {
		return nil, api.ErrRange
	}
	var all [][]api.AlPair
	for l := range c.table().alignments() {
		all = append(all, l)
		if len(all) == most {
			break
		}
	}
	return all, api.OK
}

// Surely returns the pairs that all best alignments have, and those that some have.
func Surely(a, b api.AlElement, slack int) (sure, may []api.AlPair, e api.Errno) {
	c, e := coupleOf(a, b, slack)
	if e != api.OK {
		return nil, nil, e
	}
	may = c.table().may()
	return surely(may), may, api.OK
}

// Judge returns the worth of an alignment.
func Judge(a, b api.AlElement, slack int, l []api.AlPair) (worth int, e api.Errno) {
	c, e := coupleOf(a, b, slack)
	if e != api.OK {
		return 0, e
	}
	for _, p := range l {
		if !within(p.Left, 0, len(c.left)-1) || !within(p.Right, 0, len(c.right)-1) {
			return 0, api.ErrArg
		}
	}
	for i, p := range l {
		share := c.share(p)
		if share == 0 || i > 0 && !ascend(l[i-1], p) {
			return 0, api.AlErrPair
		}
		worth += share
	}
	return worth, api.OK
}
