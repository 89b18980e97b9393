package align

import (
	"cmp"
	"math/rand/v2"
	"slices"
	"testing"

	"telecine/api"
)

// comparePairs compares two alignments by their order.
func comparePairs(a, b []api.AlPair) int {
	return slices.CompareFunc(a, b, func(p, q api.AlPair) int {
		return cmp.Or(cmp.Compare(p.Left, q.Left), cmp.Compare(p.Right, q.Right))
	})
}

// anyAlignment returns some alignment of two elements.
func anyAlignment(d *rand.Rand, a, b api.AlElement, slack int) (l []api.AlPair) {
	for i, j := 0, 0; i < len(a.Shots) && j < len(b.Shots); {
		if _, same := slowShare(a.Shots[i], b.Shots[j], slack); same && d.IntN(3) > 0 {
			l = append(l, api.AlPair{Left: i, Right: j})
			i++
			j++
		} else if d.IntN(2) == 0 {
			i++
		} else {
			j++
		}
	}
	return l
}

// P6.9: of elements of any length each alignment of All has the worth of Best, they are all different and in their order, and no alignment is worth more, or as much and not among them.
func TestBestIsBest(t *testing.T) {
	d := dice(9)
	var as, complete int
	for range 1500 {
		a, b := anyTwo(d, from(d, 1, api.MaxAlShots))
		slack, most := d.IntN(4), from(d, 1, api.MaxAlAll)
		worth, many, _ := Best(a, b, slack)
		l, e := All(a, b, slack, most)
		if len(l) != min(many, most) || e != api.OK {
			t.Fatalf("All of %v and %v = %d, %d; Best says %d", a, b, len(l), e, many)
		}
		for i, x := range l {
			if n, e := Judge(a, b, slack, x); n != worth || e != api.OK {
				t.Fatalf("Judge of %v and %v by %v = %d, %d; Best says %d", a, b, x, n, e, worth)
			}
			if i > 0 && comparePairs(l[i-1], x) >= 0 {
				t.Fatalf("All of %v and %v: %v does not come before %v", a, b, l[i-1], x)
			}
		}
		for range 20 {
			x := anyAlignment(d, a, b, slack)
			n, e := Judge(a, b, slack, x)
			among := slices.ContainsFunc(l, func(y []api.AlPair) bool { return slices.Equal(x, y) })
			if n > worth || e != api.OK || n == worth && many <= most && !among {
				t.Fatalf("Judge of %v and %v by %v = %d, %d; Best says %d; among all: %t", a, b, x, n, e, worth, among)
			}
			if n == worth {
				as++
			}
		}
		if many <= most {
			complete++
		}
	}
	if as < 300 || complete < 300 {
		t.Errorf("as good, complete: %d, %d", as, complete)
	}
}

// P6.10: if there is one best alignment, it is what is sure, and what may be; what is sure is in each one, and what is in one may be.
func TestOnly(t *testing.T) {
	d := dice(10)
	var only, several int
	for range 3000 {
		a, b := anyTwo(d, from(d, 1, api.MaxAlShots))
		slack := d.IntN(4)
		_, many, _ := Best(a, b, slack)
		l, _ := All(a, b, slack, api.MaxAlAll)
		sure, may, _ := Surely(a, b, slack)
		if many == 1 {
			if len(l) != 1 || !slices.Equal(sure, l[0]) || !slices.Equal(may, l[0]) {
				t.Fatalf("of %v and %v there is one: All = %v; Surely = %v, %v", a, b, l, sure, may)
			}
			only++
			continue
		}
		for _, x := range l {
			for _, p := range sure {
				if !slices.Contains(x, p) {
					t.Fatalf("of %v and %v %v is sure, and not in %v", a, b, p, x)
				}
			}
			for _, p := range x {
				if !slices.Contains(may, p) {
					t.Fatalf("of %v and %v %v is in %v, and it may not be", a, b, p, x)
				}
			}
		}
		if len(may) <= len(sure) {
			t.Fatalf("of %v and %v there are %d, and what may be is sure: %v", a, b, many, sure)
		}
		several++
	}
	if only < 500 || several < 500 {
		t.Errorf("only, several: %d, %d", only, several)
	}
}

// exchanged returns pairs with left and right exchanged, by Left and then by Right.
func exchanged(l []api.AlPair) (out []api.AlPair) {
	for _, p := range l {
		out = append(out, api.AlPair{Left: p.Right, Right: p.Left})
	}
	slices.SortFunc(out, func(p, q api.AlPair) int {
		return cmp.Or(cmp.Compare(p.Left, q.Left), cmp.Compare(p.Right, q.Right))
	})
	return out
}

// P6.11: for the elements exchanged, Best returns the same, and Surely the same pairs exchanged.
func TestExchanged(t *testing.T) {
	d := dice(11)
	for range 2000 {
		a, b := anyTwo(d, from(d, 1, api.MaxAlShots))
		slack := d.IntN(4)
		worth, many, _ := Best(a, b, slack)
		sure, may, _ := Surely(a, b, slack)
		expectBest(t, b, a, slack, worth, many)
		expectSurely(t, b, a, slack, exchanged(sure), exchanged(may))
		if t.Failed() {
			t.FailNow()
		}
	}
}

// framesOf returns the frames of all shots of an element.
func framesOf(x api.AlElement) (sum int) {
	for _, s := range x.Shots {
		sum += s.Frames
	}
	return sum
}

// longer returns an element with a further shot without an error at one of its ends.
func longer(d *rand.Rand, x api.AlElement) api.AlElement {
	s := shot(from(d, 900, 999)*d.IntN(2), from(d, 1, 9))
	at := d.IntN(2) * len(x.Shots)
	x.Shots = slices.Insert(slices.Clone(x.Shots), at, s)
	return x
}

// P6.12: with more slack, or a further shot at an end of one element, the worth is not less; it is at most the frames of either element.
func TestMoreIsNotLess(t *testing.T) {
	d := dice(12)
	var slacker, further int
	for range 3000 {
		a, b := anyTwo(d, from(d, 1, api.MaxAlShots-1))
		last := 0
		for slack := range 9 {
			worth, _, e := Best(a, b, slack)
			if worth < last || worth > framesOf(a) || worth > framesOf(b) || e != api.OK {
				t.Fatalf("Best of %v and %v with %d = %d, %d; with less %d", a, b, slack, worth, e, last)
			}
			if slack > 0 && worth > last {
				slacker++
			}
			last = worth
			x, y := longer(d, a), longer(d, b)
			left, _, e := Best(x, b, slack)
			right, _, f := Best(a, y, slack)
			if left < worth || right < worth || e != api.OK || f != api.OK {
				t.Fatalf("Best of %v and %v with %d = %d; of %v %d, %d; of %v %d, %d", a, b, slack, worth, x, left, e, y, right, f)
			}
			if left > worth || right > worth {
				further++
			}
		}
	}
	if slacker < 1000 || further < 1000 {
		t.Errorf("slacker, further: %d, %d", slacker, further)
	}
}

// P6.13: an element whose marks all are above 0 is aligned in one way with itself, and with one from which shots were cut by those that are left.
func TestItself(t *testing.T) {
	d := dice(13)
	for range 1000 {
		x, cut := element("x"), element("cut")
		var same, left []api.AlPair
		for i, m := range d.Perm(api.MaxAlMark)[:d.IntN(api.MaxAlShots+1)] {
			s := shot(m+1, from(d, 1, 20))
			x.Shots = append(x.Shots, s)
			same = append(same, api.AlPair{Left: i, Right: i})
			if d.IntN(3) > 0 {
				left = append(left, api.AlPair{Left: i, Right: len(cut.Shots)})
				cut.Shots = append(cut.Shots, s)
			}
		}
		slack := d.IntN(20)
		expectBest(t, x, x, slack, framesOf(x), 1)
		expectAll(t, x, x, slack, 2, same)
		expectSurely(t, x, x, slack, same, same)
		expectBest(t, x, cut, slack, framesOf(cut), 1)
		expectAll(t, x, cut, slack, 2, left)
		expectBest(t, cut, x, slack, framesOf(cut), 1)
		if t.Failed() {
			t.FailNow()
		}
	}
}
