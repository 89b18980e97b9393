package align

import (
	"math/big"
	"slices"
	"testing"

	"telecine/api"
)

// slowShare returns what two shots share, and whether they can be the same, by the definitions.
func slowShare(a, b api.AlShot, slack int) (share int, same bool) {
	if a.Mark != b.Mark && a.Mark != 0 && b.Mark != 0 {
		return 0, false
	}
	if a.Frames-b.Frames > slack || b.Frames-a.Frames > slack {
		return 0, false
	}
	share = b.Frames
	if a.Frames < b.Frames {
		share = a.Frames
	}
	if a.Mark != b.Mark || a.Mark == 0 {
		share /= 2
	}
	if share == 0 {
		share = 1
	}
	return share, true
}

// slowAlignment is an alignment, and its worth.
type slowAlignment struct {
	pairs []api.AlPair
	worth int
}

// slowAlignments returns all alignments of two elements, in their order.
func slowAlignments(a, b api.AlElement, slack int) (list []slowAlignment) {
	var pairs []api.AlPair
	var grow func(left, right, worth int)
	grow = func(left, right, worth int) {
		list = append(list, slowAlignment{slices.Clone(pairs), worth})
		for i := left; i < len(a.Shots); i++ {
			for j := right; j < len(b.Shots); j++ {
				if share, same := slowShare(a.Shots[i], b.Shots[j], slack); same {
					pairs = append(pairs, api.AlPair{Left: i, Right: j})
					grow(i+1, j+1, worth+share)
					pairs = pairs[:len(pairs)-1]
				}
			}
		}
	}
	grow(0, 0, 0)
	return list
}

// slowBest returns the best alignments of two elements, in their order, and their worth.
func slowBest(a, b api.AlElement, slack int) (best [][]api.AlPair, worth int) {
	list := slowAlignments(a, b, slack)
	for _, x := range list {
		worth = max(worth, x.worth)
	}
	for _, x := range list {
		if x.worth == worth {
			best = append(best, x.pairs)
		}
	}
	return best, worth
}

// slowSurely returns the pairs that all of some alignments have, and those that some of them has.
func slowSurely(a, b api.AlElement, l [][]api.AlPair) (sure, may []api.AlPair) {
	for i := range a.Shots {
		for j := range b.Shots {
			p, count := api.AlPair{Left: i, Right: j}, 0
			for _, x := range l {
				if slices.Contains(x, p) {
					count++
				}
			}
			if count > 0 {
				may = append(may, p)
			}
			if count == len(l) {
				sure = append(sure, p)
			}
		}
	}
	return sure, may
}

// P6.2 to P6.5 and DOC's P4: of small elements Best, All, Surely and Judge have just what the definitions tell of all alignments.
func TestAllAlignments(t *testing.T) {
	d := dice(2)
	var only, many, unsure, cut int
	for range 6000 {
		a, b := anyTwo(d, 6)
		slack, most := d.IntN(5), from(d, 1, 6)
		best, worth := slowBest(a, b, slack)
		expectBest(t, a, b, slack, worth, len(best))
		expectAll(t, a, b, slack, 200, best[:min(200, len(best))]...)
		expectAll(t, a, b, slack, most, best[:min(most, len(best))]...)
		sure, may := slowSurely(a, b, best)
		expectSurely(t, a, b, slack, sure, may)
		for _, x := range slowAlignments(a, b, slack) {
			expectJudge(t, a, b, slack, x.pairs, x.worth, api.OK)
		}
		if t.Failed() {
			t.FailNow()
		}
		if len(best) == 1 && worth > 0 {
			only++
		}
		if len(best) > 5 {
			many++
		}
		if len(sure) > 0 && len(sure) < len(may) {
			unsure++
		}
		if len(best) > most {
			cut++
		}
	}
	if only < 1000 || many < 100 || unsure < 300 || cut < 300 {
		t.Errorf("only, many, unsure, cut: %d, %d, %d, %d", only, many, unsure, cut)
	}
}

// P6.5: any list of pairs that are indices is accepted if it is one of all alignments, and has the error AlErrPair otherwise.
func TestJudgeAnyPairs(t *testing.T) {
	d := dice(5)
	var accepted, refused int
	for range 3000 {
		a, b := anyTwo(d, 4)
		if len(a.Shots) == 0 || len(b.Shots) == 0 {
			continue
		}
		slack := d.IntN(9)
		list := slowAlignments(a, b, slack)
		for range 20 {
			var l []api.AlPair
			for range d.IntN(4) {
				l = append(l, api.AlPair{Left: d.IntN(len(a.Shots)), Right: d.IntN(len(b.Shots))})
			}
			at := slices.IndexFunc(list, func(x slowAlignment) bool { return slices.Equal(x.pairs, l) })
			if at >= 0 {
				expectJudge(t, a, b, slack, l, list[at].worth, api.OK)
				accepted++
			} else {
				expectJudge(t, a, b, slack, l, 0, api.AlErrPair)
				refused++
			}
		}
	}
	if accepted < 5000 || refused < 5000 {
		t.Errorf("accepted, refused: %d, %d", accepted, refused)
	}
}

// slowTable is, of what is left of two elements from two indices on, the worth of the best alignments, and how many there are, by their first pairs.
type slowTable struct {
	worth [41][41]int
	many  [41][41]*big.Int
}

// tableOf returns the table of two elements.
func tableOf(a, b []api.AlShot, slack int) *slowTable {
	var x slowTable
	for left := len(a); left >= 0; left-- {
		for right := len(b); right >= 0; right-- {
			worth, many := 0, big.NewInt(1)
			for i := left; i < len(a); i++ {
				for j := right; j < len(b); j++ {
					share, same := slowShare(a[i], b[j], slack)
					sum := share + x.worth[i+1][j+1]
					if same && sum > worth {
						worth, many = sum, new(big.Int)
					}
					if same && sum == worth {
						many.Add(many, x.many[i+1][j+1])
					}
				}
			}
			x.worth[left][right], x.many[left][right] = worth, many
		}
	}
	return &x
}

// backwards returns shots from the last one to the first one.
func backwards(l []api.AlShot) []api.AlShot {
	l = slices.Clone(l)
	slices.Reverse(l)
	return l
}

// through returns the pairs that all best alignments have, and those that some of them has, by how many go through each pair.
func through(a, b []api.AlShot, slack int) (sure, may []api.AlPair) {
	behind, ahead := tableOf(a, b, slack), tableOf(backwards(a), backwards(b), slack)
	for i := range a {
		for j := range b {
			share, same := slowShare(a[i], b[j], slack)
			if !same || ahead.worth[len(a)-i][len(b)-j]+share+behind.worth[i+1][j+1] != behind.worth[0][0] {
				continue
			}
			p := api.AlPair{Left: i, Right: j}
			may = append(may, p)
			many := new(big.Int).Mul(ahead.many[len(a)-i][len(b)-j], behind.many[i+1][j+1])
			if many.Cmp(behind.many[0][0]) == 0 {
				sure = append(sure, p)
			}
		}
	}
	return sure, may
}

// P6.2, P6.4: of elements of any length how many best alignments there are, and what is sure, are those of numbers without a limit.
func TestManyWithoutLimit(t *testing.T) {
	d := dice(4)
	var counted, more, unsure int
	for range 1500 {
		a, b := anyTwo(d, from(d, 1, api.MaxAlShots))
		slack := d.IntN(4)
		x := tableOf(a.Shots, b.Shots, slack)
		many := x.many[0][0]
		if many.Cmp(big.NewInt(1000000)) > 0 {
			many = big.NewInt(1000000)
			more++
		} else if many.Cmp(big.NewInt(200)) > 0 {
			counted++
		}
		expectBest(t, a, b, slack, x.worth[0][0], int(many.Int64()))
		sure, may := through(a.Shots, b.Shots, slack)
		expectSurely(t, a, b, slack, sure, may)
		if t.Failed() {
			t.FailNow()
		}
		if len(sure) > 0 && len(sure) < len(may) {
			unsure++
		}
	}
	if counted < 10 || more < 3 || unsure < 100 {
		t.Errorf("counted, more, unsure: %d, %d, %d", counted, more, unsure)
	}
}
