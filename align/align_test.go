package align

import (
	"math/rand/v2"
	"slices"
	"testing"

	"telecine/api"
)

// shot returns a shot.
func shot(mark, frames int) api.AlShot { return api.AlShot{Mark: mark, Frames: frames} }

// element returns an element of the grade 0.
func element(name string, shots ...api.AlShot) api.AlElement {
	return api.AlElement{Name: name, Shots: shots}
}

// graded returns an element with another grade.
func graded(x api.AlElement, grade int) api.AlElement {
	x.Grade = grade
	return x
}

// listed returns an element whose shots have marks, and one frame each.
func listed(name string, marks ...int) api.AlElement {
	x := element(name)
	for _, m := range marks {
		x.Shots = append(x.Shots, shot(m, 1))
	}
	return x
}

// alike returns an element with so many shots without marks that have so many frames each.
func alike(name string, count, frames int) api.AlElement {
	return element(name, slices.Repeat([]api.AlShot{shot(0, frames)}, count)...)
}

// pairs returns the pairs of their numbers.
func pairs(numbers ...int) (l []api.AlPair) {
	for p := range slices.Chunk(numbers, 2) {
		l = append(l, api.AlPair{Left: p[0], Right: p[1]})
	}
	return l
}

// pick returns a mark of a version, and its source.
func pick(mark, element, shot int) api.AlPick {
	return api.AlPick{Mark: mark, Element: element, Shot: shot}
}

// gap returns a mark that is lost, and those between which it lies.
func gap(mark, after, before int) api.AlGap {
	return api.AlGap{Mark: mark, After: after, Before: before}
}

// example is the elements A, B, C and U of the chapter's examples.
func example() []api.AlElement {
	return []api.AlElement{
		element("neg", shot(1, 100), shot(2, 50), shot(3, 80), shot(4, 60)),
		graded(element("print-b", shot(1, 96), shot(3, 80), shot(0, 58), shot(5, 40)), 2),
		graded(element("cut", shot(2, 48), shot(5, 44), shot(4, 60)), 1),
		element("u", shot(0, 60)),
	}
}

// copied returns elements that share no memory with l.
func copied(l []api.AlElement) []api.AlElement {
	l = slices.Clone(l)
	for i := range l {
		l[i].Shots = slices.Clone(l[i].Shots)
	}
	return l
}

// dice is a source of numbers that are the same in each run.
func dice(seed uint64) *rand.Rand { return rand.New(rand.NewPCG(seed, 1895)) }

// from returns a number from lo to hi.
func from(d *rand.Rand, lo, hi int) int { return lo + d.IntN(hi-lo+1) }

// anyElement returns some element of at most so many shots, with marks to so many, none of them twice, and so few frames that many shots are alike; of some elements nobody knows any marks.
func anyElement(d *rand.Rand, name string, shots, marks int) api.AlElement {
	x := graded(element(name), d.IntN(3))
	left, known, frames := d.Perm(marks), d.IntN(4), from(d, 1, 9)
	for range d.IntN(shots + 1) {
		s := shot(0, from(d, 1, frames))
		if len(left) > 0 && d.IntN(3) < known {
			s.Mark, left = left[0]+1, left[1:]
		}
		x.Shots = append(x.Shots, s)
	}
	return x
}

// anyCut returns an element of whose shots some are cut out, some have lost frames, and of some nobody knows the marks.
func anyCut(d *rand.Rand, name string, x api.AlElement) api.AlElement {
	cut := graded(element(name), d.IntN(3))
	for _, s := range x.Shots {
		if d.IntN(4) == 0 {
			continue
		}
		if d.IntN(4) == 0 {
			s.Mark = 0
		}
		s.Frames = max(1, s.Frames-d.IntN(4)*d.IntN(2))
		cut.Shots = append(cut.Shots, s)
	}
	return cut
}

// anyTwo returns two elements of at most so many shots: some, or one and another one that was cut out of it.
func anyTwo(d *rand.Rand, shots int) (a, b api.AlElement) {
	marks := from(d, 1, 2*shots)
	a = anyElement(d, "a", shots, marks)
	if d.IntN(2) == 0 {
		return a, anyElement(d, "b", shots, marks)
	}
	return a, anyCut(d, "b", a)
}

// The examples of the chapter, and those of DOC.md about this layer.
func TestExamples(t *testing.T) {
	l := example()
	a, b, c, u := l[0], l[1], l[2], l[3]
	expectBest(t, a, b, 10, 205, 1)
	expectBest(t, a, b, 0, 80, 1)
	expectBest(t, a, a, 10, 290, 1)
	expectBest(t, a, u, 20, 30, 2)
	expectAll(t, a, b, 10, 200, pairs(0, 0, 2, 1, 3, 2))
	expectAll(t, a, u, 20, 1, pairs(2, 0))
	expectSurely(t, a, b, 10, pairs(0, 0, 2, 1, 3, 2), pairs(0, 0, 2, 1, 3, 2))
	expectSurely(t, a, u, 20, nil, pairs(2, 0, 3, 0))
	expectJudge(t, a, b, 10, pairs(0, 0, 2, 1), 176, api.OK)
	expectJudge(t, a, b, 10, pairs(1, 1), 0, api.AlErrPair)
	expectWhole(t, l[:3], []int{1, 2, 3, 5, 4}, true)
	expectWhole(t, l[:2], []int{1, 2, 3, 4, 5}, false)
	expectWhole(t, []api.AlElement{listed("x", 1, 2, 3, 4), listed("y", 1, 3, 5), listed("z", 2, 5, 4)}, []int{1, 2, 3, 5, 4}, true)
	expectRound(t, []api.AlElement{c, listed("other", 4, 5)}, 4, 5)
	expectLost(t, l[:2], []int{1, 9, 2, 7, 8}, gap(9, 1, 2), gap(7, 2, 0), gap(8, 2, 0))
	expectVersion(t, l[:3], []int{1, 2, 3, 5, 4}, 334, pick(1, 0, 0), pick(2, 0, 1), pick(3, 0, 2), pick(5, 2, 1), pick(4, 0, 3))
}
