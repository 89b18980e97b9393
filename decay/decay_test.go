package decay

import (
	"math/big"
	"math/rand/v2"
	"testing"

	"telecine/api"
)

// span returns all integers from lo to hi.
func span(lo, hi int) api.Span { return api.Span{Lo: lo, Hi: hi} }

// climate returns a climate by the ends of its spans.
func climate(coldest, warmest, driest, dampest int) api.DcDay {
	return api.DcDay{Temp: span(coldest, warmest), Damp: span(driest, dampest)}
}

// ruleR is the rule R of the chapter's examples.
func ruleR() api.DcRule {
	return api.DcRule{
		Heat: []api.DcPoint{{At: 100, Factor: 100}, {At: 300, Factor: 500}, {At: 400, Factor: 1000}},
		Wet:  []api.DcPoint{{At: 200, Factor: 200}, {At: 600, Factor: 1000}},
		Own:  50, Feed: 10000, Grades: [3]int{1000, 5000, 20000}, Lost: 1030,
	}
}

// dayA is the climate A of the chapter's examples.
func dayA() api.DcDay { return climate(200, 250, 400, 500) }

// test returns a test.
func test(day, grade, wrong int) api.DcTest { return api.DcTest{Day: day, Grade: grade, Error: wrong} }

// tests returns some tests of a day.
func tests(count, day int) []api.DcTest {
	var list []api.DcTest
	for range count {
		list = append(list, test(day, 0, 0))
	}
	return list
}

// example is the task T of the chapter's examples, with some tests.
func example(tests ...api.DcTest) api.DcTask {
	return api.DcTask{Rule: ruleR(), First: 100, Days: []api.DcDay{dayA(), dayA(), dayA()}, Start: span(900, 1000), Tests: tests}
}

// dice is a source of numbers that are the same in each run.
func dice(seed uint64) *rand.Rand { return rand.New(rand.NewPCG(seed, 1895)) }

// from returns a number from lo to hi.
func from(d *rand.Rand, lo, hi int) int { return lo + d.IntN(hi-lo+1) }

// anySpan returns some span of numbers from lo to hi.
func anySpan(d *rand.Rand, lo, hi int) api.Span {
	a, b := from(d, lo, hi), from(d, lo, hi)
	return span(min(a, b), max(a, b))
}

// anyClimate returns some climate.
func anyClimate(d *rand.Rand) api.DcDay {
	return api.DcDay{Temp: anySpan(d, api.MinTemp, api.MaxTemp), Damp: anySpan(d, 0, api.All)}
}

// anyCurve returns some curve, with At from lo to hi.
func anyCurve(d *rand.Rand, lo, hi int) []api.DcPoint {
	count := from(d, 2, api.MaxDcPoints)
	var curve []api.DcPoint
	at, factor := lo-1, 0
	for i := range count {
		behind := count - 1 - i // points that still need an At
		at = from(d, at+1, min(at+(hi-lo)/3, hi-behind))
		factor = from(d, factor, min(factor+api.All/2, api.All))
		curve = append(curve, api.DcPoint{At: at, Factor: factor})
	}
	return curve
}

// anyRule returns some rule, with grades and a level of loss up to a number.
func anyRule(d *rand.Rand, most int) api.DcRule {
	r := api.DcRule{
		Heat: anyCurve(d, api.MinTemp, api.MaxTemp), Wet: anyCurve(d, 0, api.All),
		Own: d.IntN(api.MaxDcOwn + 1), Feed: d.IntN(api.MaxDcFeed + 1), Lost: from(d, 1, most),
	}
	r.Grades[0] = from(d, 1, most-2)
	r.Grades[1] = from(d, r.Grades[0]+1, most-1)
	r.Grades[2] = from(d, r.Grades[1]+1, most)
	return r
}

// fraction returns a quotient.
func fraction(a, b int) *big.Rat { return big.NewRat(int64(a), int64(b)) }

// down returns a fraction that is not negative, rounded down.
func down(x *big.Rat) int { return int(new(big.Int).Div(x.Num(), x.Denom()).Int64()) }

// up returns a fraction that is not negative, rounded up.
func up(x *big.Rat) int {
	n := down(x)
	if !x.IsInt() {
		n++
	}
	return n
}

// slowFactor returns the factor of a curve at a number, by looking at all its points.
func slowFactor(curve []api.DcPoint, at int) int {
	last := curve[len(curve)-1]
	if at <= curve[0].At {
		return curve[0].Factor
	}
	if at >= last.At {
		return last.Factor
	}
	for i := 1; ; i++ {
		a, b := curve[i-1], curve[i]
		if a.At <= at && at < b.At {
			return a.Factor + down(fraction((b.Factor-a.Factor)*(at-a.At), b.At-a.At))
		}
	}
}

// slowStrength returns the strength of a climate.
func slowStrength(r api.DcRule, d api.DcDay) api.Span {
	lo := fraction(slowFactor(r.Heat, d.Temp.Lo)*slowFactor(r.Wet, d.Damp.Lo), api.All)
	hi := fraction(slowFactor(r.Heat, d.Temp.Hi)*slowFactor(r.Wet, d.Damp.Hi), api.All)
	return span(down(lo), down(hi))
}

// slowGain returns what a level gains at a strength.
func slowGain(r api.DcRule, level, strength int) *big.Rat {
	g := fraction(level*r.Feed, 1000000)
	g.Add(g, fraction(r.Own, 1))
	return g.Mul(g, fraction(strength, 1000))
}

// slowNext returns the levels that can follow a level at a strength.
func slowNext(r api.DcRule, s api.Span, level int) api.Span {
	lo, hi := level+down(slowGain(r, level, s.Lo)), level+up(slowGain(r, level, s.Hi))
	return span(min(lo, api.MaxDcLevel), min(hi, api.MaxDcLevel))
}

// slowGrade returns how many of the grades are at most a level.
func slowGrade(r api.DcRule, level int) int {
	n := 0
	for _, g := range r.Grades {
		if g <= level {
			n++
		}
	}
	return n
}

// P2.3: strengths, on the points of the curves, between them and beyond.
func TestStrength(t *testing.T) {
	for i, c := range []struct {
		d    api.DcDay
		want api.Span
		e    api.Errno
	}{
		{dayA(), span(180, 320), api.OK},
		{climate(50, 500, 0, 700), span(20, 1000), api.OK},
		{climate(-300, 600, 0, 1000), span(20, 1000), api.OK},
		{climate(100, 300, 200, 600), span(20, 500), api.OK},
		{climate(99, 301, 199, 601), span(20, 505), api.OK},
		{climate(101, 299, 201, 599), span(20, 497), api.OK},
		// 100 and 3 of 200 times 400 is 106; 200 and 7 of 400 times 800 is 214: both factors together are 22.684.
		{climate(103, 103, 207, 207), span(22, 22), api.OK},
		// 500 and 1 of 100 times 500 is 505; 998 at 599.
		{climate(301, 301, 599, 599), span(503, 503), api.OK},
		{climate(1, 0, 0, 0), api.Span{}, api.ErrArg},
		{climate(0, 0, 1, 0), api.Span{}, api.ErrArg},
		{climate(-301, 0, 1, 0), api.Span{}, api.ErrRange},
		{climate(1, 0, 0, 1001), api.Span{}, api.ErrRange},
		{climate(1, 0, -1, 0), api.Span{}, api.ErrRange},
		{climate(0, 601, 0, 0), api.Span{}, api.ErrRange},
	} {
		if s, e := Strength(ruleR(), c.d); s != c.want || e != c.e {
			t.Errorf("%d: Strength = %v, %d", i, s, e)
		}
		// The error of the climate comes before that of the levels.
		if s, e := Grow(ruleR(), c.d, span(-1, 0)); c.e != api.OK && (s != (api.Span{}) || e != c.e) {
			t.Errorf("%d: Grow = %v, %d", i, s, e)
		}
	}
}

// P2.3: factors are rounded down one by one, and so is their product.
func TestStrengthIsRoundedDown(t *testing.T) {
	r := ruleR()
	r.Heat = []api.DcPoint{{At: 0, Factor: 0}, {At: 3, Factor: 1000}}
	r.Wet = []api.DcPoint{{At: 0, Factor: 0}, {At: 7, Factor: 1000}}
	// 333.3 and 142.8 are 333 and 142, and together 47.286 (not 47.6, which is not below 47 either); 666 and 857 are 570.762, but 666.6 times 857.1 is 571.4.
	if s, e := Strength(r, climate(1, 2, 1, 6)); s != span(47, 570) || e != api.OK {
		t.Errorf("Strength = %v, %d", s, e)
	}
}

// P2.3: what grows, rounded down and up, and the greatest level.
func TestGrow(t *testing.T) {
	still := ruleR()
	still.Own, still.Feed = 0, 0
	whole := ruleR()
	whole.Own, whole.Feed = 10, 0 // at a strength of 500 just 5
	fast := ruleR()
	fast.Own, fast.Feed = api.MaxDcOwn, api.MaxDcFeed
	strongest := climate(600, 600, 1000, 1000)
	for i, c := range []struct {
		r       api.DcRule
		d       api.DcDay
		n, want api.Span
		e       api.Errno
	}{
		{ruleR(), dayA(), span(1000, 1200), span(1010, 1220), api.OK},
		{ruleR(), dayA(), span(900, 900), span(910, 919), api.OK},
		{ruleR(), dayA(), span(0, 0), span(9, 16), api.OK},
		{ruleR(), dayA(), span(1000000, 1000000), span(1000000, 1000000), api.OK},
		{ruleR(), dayA(), span(998000, 999000), span(999805, 1000000), api.OK},
		{ruleR(), dayA(), span(0, 1000000), span(9, 1000000), api.OK},
		{ruleR(), climate(0, 0, 0, 0), span(1020, 1020), span(1021, 1022), api.OK},
		{still, strongest, span(5, 7), span(5, 7), api.OK},
		{whole, climate(300, 300, 600, 600), span(5, 5), span(10, 10), api.OK},
		{whole, climate(300, 301, 600, 600), span(5, 5), span(10, 11), api.OK},
		{fast, strongest, span(0, 0), span(100000, 100000), api.OK},
		// 100000 and 0.999999, 1.999998 and 399999.6.
		{fast, strongest, span(1, 2), span(100001, 100004), api.OK},
		{fast, strongest, span(400000, 400000), span(899999, 900000), api.OK},
		{fast, strongest, span(450000, 450000), span(999999, 1000000), api.OK},
		{fast, strongest, span(450001, 450001), span(1000000, 1000000), api.OK},
		{ruleR(), dayA(), span(5, 4), api.Span{}, api.ErrArg},
		{ruleR(), dayA(), span(-1, 4), api.Span{}, api.ErrRange},
		{ruleR(), dayA(), span(0, -1), api.Span{}, api.ErrRange},
		{ruleR(), dayA(), span(5, 1000001), api.Span{}, api.ErrRange},
		{ruleR(), dayA(), span(1000001, 5), api.Span{}, api.ErrRange},
	} {
		if s, e := Grow(c.r, c.d, c.n); s != c.want || e != c.e {
			t.Errorf("%d: Grow = %v, %d", i, s, e)
		}
	}
}

// P2.3: strengths and growth by any rules, against those that fractions tell.
func TestGrowByAnyRule(t *testing.T) {
	d := dice(3)
	for range 5000 {
		r, day := anyRule(d, api.MaxDcLevel), anyClimate(d)
		s, e := Strength(r, day)
		if want := slowStrength(r, day); s != want || e != api.OK {
			t.Fatalf("Strength of %+v on %v = %v, %d; want %v", r, day, s, e, want)
		}
		n := anySpan(d, 0, api.MaxDcLevel)
		want := span(slowNext(r, s, n.Lo).Lo, slowNext(r, s, n.Hi).Hi)
		if got, e := Grow(r, day, n); got != want || e != api.OK {
			t.Fatalf("Grow of %v by %+v on %v = %v, %d; want %v", n, r, day, got, e, want)
		}
	}
}

// P2.3: Grow returns the least and the greatest of the levels that can follow one of the span, and all between them can.
func TestGrowIsASpan(t *testing.T) {
	d := dice(4)
	for range 300 {
		r, day := anyRule(d, api.MaxDcLevel), anyClimate(d)
		lo := d.IntN(api.MaxDcLevel - 50)
		n := span(lo, lo+d.IntN(50))
		got, _ := Grow(r, day, n)
		reach := got.Lo - 1 // all up to it can follow
		for level := n.Lo; level <= n.Hi; level++ {
			one := slowNext(r, slowStrength(r, day), level)
			if one.Lo < got.Lo || one.Lo > reach+1 || one.Hi < reach {
				t.Fatalf("Grow of %v by %+v on %v = %v; of %d it is %v", n, r, day, got, level, one)
			}
			reach = one.Hi
		}
		if reach != got.Hi {
			t.Fatalf("Grow of %v by %+v on %v = %v; want up to %d", n, r, day, got, reach)
		}
	}
}

// P2.3: grades, and levels that are none.
func TestGrade(t *testing.T) {
	for level, want := range map[int]int{0: 0, 999: 0, 1000: 1, 1001: 1, 4999: 1, 5000: 2, 19999: 2, 20000: 3, 20001: 3, 1000000: 3} {
		if g, e := Grade(ruleR(), level); g != want || e != api.OK {
			t.Errorf("Grade of %d = %d, %d", level, g, e)
		}
	}
	for _, level := range []int{-1, 1000001, 1<<63 - 1, -1 << 63} {
		if g, e := Grade(ruleR(), level); g != 0 || e != api.ErrRange {
			t.Errorf("Grade of %d = %d, %d", level, g, e)
		}
	}
	r := ruleR()
	r.Grades = [3]int{1, 2, 3}
	for level := range 10 {
		if g, e := Grade(r, level); g != min(level, 3) || e != api.OK {
			t.Errorf("Grade of %d = %d, %d", level, g, e)
		}
	}
}

// P2.3: the error of a level comes behind that of the rule, also where there is a climate with an error.
func TestErrorsInOrder(t *testing.T) {
	r := ruleR()
	r.Wet[1].At = 200
	if g, e := Grade(r, -1); g != 0 || e != api.ErrArg {
		t.Errorf("Grade = %d, %d", g, e)
	}
	if s, e := Strength(r, climate(0, 601, 0, 0)); s != (api.Span{}) || e != api.ErrArg {
		t.Errorf("Strength = %v, %d", s, e)
	}
	if s, e := Grow(r, climate(0, 601, 0, 0), span(-1, 0)); s != (api.Span{}) || e != api.ErrArg {
		t.Errorf("Grow = %v, %d", s, e)
	}
}
