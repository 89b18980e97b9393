package restore

import (
	"fmt"
	"math/big"
	"regexp"
	"slices"
	"strconv"
	"strings"

	"telecine/api"
)

// differences returns the changes from one film to another one.
func differences(l, m []api.SnFrame) (all []api.ReChange) {
	for f := range l {
		for n, old := range l[f].Pixels {
			if m[f].Pixels[n] != old {
				all = append(all, api.ReChange{Frame: f, Pixel: n, Old: old, New: m[f].Pixels[n]})
			}
		}
	}
	return all
}

// inBoxes reports whether a pixel is in a box.
func inBoxes(s api.ReStep, x, y int) bool {
	return slices.ContainsFunc(s.Keep, func(b api.ReBox) bool { return x >= b.Left && x <= b.Right && y >= b.Top && y <= b.Low })
}

// slowDo makes all frames anew, as if nothing were kept, and then puts back what is.
func slowDo(l []api.SnFrame, s api.ReStep) []api.SnFrame {
	out := clone(l)
	for f := s.From; f <= s.Until; f++ {
		switch s.Kind {
		case api.ReShift:
			out[f] = slowShift(l[f], s)
		case api.ReScratch:
			slowScratch(out[f], s)
		default:
			for n := range out[f].Pixels {
				out[f].Pixels[n] = slowPixel(l, s, f, n)
			}
		}
		for n := range out[f].Pixels {
			if inBoxes(s, n%l[f].Wide, n/l[f].Wide) {
				out[f].Pixels[n] = l[f].Pixels[n]
			}
		}
	}
	return out
}

// slowShift puts each pixel where it belongs into a frame that is filled.
func slowShift(f api.SnFrame, s api.ReStep) api.SnFrame {
	out := plain(f.Wide, f.High, byte(s.C))
	for y := range f.High {
		for x := range f.Wide {
			if a, b := x+s.A, y+s.B; a >= 0 && a < f.Wide && b >= 0 && b < f.High {
				out.Pixels[b*f.Wide+a] = f.Pixels[y*f.Wide+x]
			}
		}
	}
	return out
}

// slowScratch mends each row of a frame by fractions.
func slowScratch(f api.SnFrame, s api.ReStep) {
	for row := range slices.Chunk(f.Pixels, f.Wide) {
		var left, right byte
		switch {
		case s.A == 0:
			left, right = row[s.B+1], row[s.B+1]
		case s.B == f.Wide-1:
			left, right = row[s.A-1], row[s.A-1]
		default:
			left, right = row[s.A-1], row[s.B+1]
		}
		for x := s.A; x <= s.B; x++ {
			part := big.NewRat(int64(x-s.A+1), int64(s.B-s.A+2))
			level := new(big.Rat).Mul(part, big.NewRat(int64(right)-int64(left), 1))
			level.Add(level, big.NewRat(int64(left), 1))
			row[x] = byte(new(big.Int).Quo(level.Num(), level.Denom()).Int64())
		}
	}
}

// slowPixel returns a new pixel of a step whose pixels come from their own places.
func slowPixel(l []api.SnFrame, s api.ReStep, f, n int) byte {
	v := int(l[f].Pixels[n])
	switch s.Kind {
	case api.ReTone:
		return s.Table[v]
	case api.ReGrain:
		a := new(big.Int).MulRange(1, 1)
		for _, factor := range []int{s.A + 1, f + 3, n + 7, 7919} {
			a.Mul(a, big.NewInt(int64(factor)))
		}
		b := big.NewInt(int64(n + 5))
		b.Mul(b, b).Mul(b, big.NewInt(104729))
		h := a.Add(a, b).Mod(a, big.NewInt(65521)).Int64()
		v += int(h)%(2*s.B+1) - s.B
	case api.ReLift:
		v += s.A
	case api.ReDust:
		if f == 0 || f == len(l)-1 {
			break
		}
		p, q := int(l[f-1].Pixels[n]), int(l[f+1].Pixels[n])
		if (p-q)*(p-q) <= s.B*s.B && (v-p)*(v-p) >= s.A*s.A && (v-q)*(v-q) >= s.A*s.A {
			v = (p + q) >> 1
		}
	}
	return byte(min(max(v, 0), 255))
}

// slowRun returns the films before each step of a program, and the one behind it.
func slowRun(l []api.SnFrame, steps []api.ReStep) [][]api.SnFrame {
	behind := [][]api.SnFrame{l}
	for _, s := range steps {
		behind = append(behind, slowDo(behind[len(behind)-1], s))
	}
	return behind
}

// origin is from where a pixel comes, and by which steps.
type origin struct {
	at api.ReAt
	by []int
}

// slowOrigins follows all pixels of a film at once, from the first step to the last one.
func slowOrigins(l []api.SnFrame, steps []api.ReStep) map[api.ReAt]origin {
	all := map[api.ReAt]origin{}
	for f := range l {
		for n := range l[f].Pixels {
			p := api.ReAt{Frame: f, Pixel: n}
			all[p] = origin{at: p}
		}
	}
	behind := slowRun(l, steps)
	for i, s := range steps {
		next := map[api.ReAt]origin{}
		for p, o := range all {
			x, y := p.Pixel%l[0].Wide, p.Pixel/l[0].Wide
			shifted := s.Kind == api.ReShift && p.Frame >= s.From && p.Frame <= s.Until && !inBoxes(s, x, y) && (s.A != 0 || s.B != 0)
			if shifted {
				x, y = x-s.A, y-s.B
				o = origin{at: nowhere}
				if x >= 0 && x < l[0].Wide && y >= 0 && y < l[0].High {
					o = all[api.ReAt{Frame: p.Frame, Pixel: y*l[0].Wide + x}]
				}
			}
			if shifted || behind[i][p.Frame].Pixels[p.Pixel] != behind[i+1][p.Frame].Pixels[p.Pixel] {
				o.by = append(slices.Clone(o.by), i)
			}
			next[p] = o
		}
		all = next
	}
	return all
}

// slowVoted looks for the last vote of each person on each step.
func slowVoted(steps int, votes []api.ReVote, need int) (accepted []int) {
	for s := range steps {
		yes, no := 0, 0
		for i, v := range votes {
			later := slices.ContainsFunc(votes[i+1:], func(w api.ReVote) bool { return w.Who == v.Who && w.Step == v.Step })
			switch {
			case v.Step != s || later:
			case v.Yes:
				yes++
			default:
				no++
			}
		}
		if no == 0 && yes >= need {
			accepted = append(accepted, s)
		}
	}
	return accepted
}

// slowText puts a text together by a format.
func slowText(log [][]api.ReChange) string {
	var text strings.Builder
	fmt.Fprintf(&text, "LOG %d\n", len(log))
	for _, changes := range log {
		fmt.Fprintf(&text, "STEP %d\n", len(changes))
		for _, c := range changes {
			fmt.Fprintf(&text, "%d %d %d %d\n", c.Frame, c.Pixel, c.Old, c.New)
		}
	}
	fmt.Fprintf(&text, "END %d\n", strings.Count(text.String(), "\n"))
	return text.String()
}

// slowInOrder reports whether the changes of a step are in order: each of them stands behind those before it in a row of all pixels that there can be.
func slowInOrder(numbers [][4]int) bool {
	last := -1
	for _, n := range numbers {
		if n[0] < 0 || n[0] > 11 || n[1] < 0 || n[1] > 2303 || n[0]*2304+n[1] <= last || n[2] == n[3] || n[2] > 255 || n[3] > 255 {
			return false
		}
		last = n[0]*2304 + n[1]
	}
	return true
}

// numberForm is how a number is written, lineForms are how the lines of a text are.
const numberForm = `(0|[1-9][0-9]{0,8})`

var (
	logForm    = regexp.MustCompile(`^LOG ` + numberForm + `$`)
	stepForm   = regexp.MustCompile(`^STEP ` + numberForm + `$`)
	changeForm = regexp.MustCompile(`^` + numberForm + ` ` + numberForm + ` ` + numberForm + ` ` + numberForm + `$`)
	endForm    = regexp.MustCompile(`^END ` + numberForm + `$`)
)

// numbersOf returns the numbers of a line with a form, if it has it.
func numbersOf(form *regexp.Regexp, line string) (numbers [4]int, ok bool) {
	found := form.FindStringSubmatch(line)
	for i := 1; i < len(found); i++ {
		numbers[i-1], _ = strconv.Atoi(found[i])
	}
	return numbers, found != nil
}

// slowRead looks at all lines of a text as a list.
func slowRead(s string) ([][]api.ReChange, api.Errno) {
	if len(s) > 60000 {
		return nil, api.ErrLong
	}
	if !strings.HasSuffix(s, "\n") {
		return nil, api.ErrForm
	}
	lines := strings.Split(strings.TrimSuffix(s, "\n"), "\n")
	last := len(lines) - 1
	first, ok := numbersOf(logForm, lines[0])
	end, ended := numbersOf(endForm, lines[last])
	if !ok || !ended || end[0] != last {
		return nil, api.ErrForm
	}
	var steps [][][4]int
	var counts []int
	for _, line := range lines[1:last] {
		if n, ok := numbersOf(stepForm, line); ok {
			steps, counts = append(steps, nil), append(counts, n[0])
		} else if n, ok := numbersOf(changeForm, line); ok && len(steps) > 0 {
			steps[len(steps)-1] = append(steps[len(steps)-1], n)
		} else {
			return nil, api.ErrForm
		}
	}
	if len(steps) != first[0] {
		return nil, api.ErrForm
	}
	var log [][]api.ReChange
	e := api.OK
	for i, numbers := range steps {
		if len(numbers) != counts[i] {
			return nil, api.ErrForm
		}
		if !slowInOrder(numbers) {
			e = api.ErrArg
		}
		var l []api.ReChange
		for _, n := range numbers {
			l = append(l, changes(n[:]...)...)
		}
		log = append(log, l)
	}
	if len(steps) > 20 {
		e = api.ErrLong
	}
	if e != api.OK {
		return nil, e
	}
	return log, api.OK
}
