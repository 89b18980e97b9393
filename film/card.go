package film

import (
	"iter"
	"strconv"
	"strings"

	"telecine/api"
)

// baseWords are the words of the bases, from nitrate on.
var baseWords = [3]string{"nitrate", "acetate", "polyester"}

// Write returns the card of a reel.
func Write(r api.FmReel) (string, api.Errno) {
	if _, _, e := Check(r); e != api.OK {
		return "", e
	}
	text := []string{
		"REEL " + r.Name + numbers(" GAUGE", r.Gauge) + " BASE " + baseWords[r.Base-api.FmNitrate] + numbers(" FRAMES", r.Frames),
		numbers("YEARS", r.Years.Lo, r.Years.Hi) + numbers(" KEEP", r.Keep),
	}
	for _, m := range r.Marks {
		text = append(text, numbers("MARK", m.Frame, m.Roll, m.Number))
	}
	for _, s := range r.Symbols {
		text = append(text, numbers("SYMBOL", s.Roll, s.Code))
	}
	for _, l := range r.Lengths {
		text = append(text, numbers("LENGTH", l.Frames, l.Micro, l.Error))
	}
	text = append(text, numbers("END", len(text)), "")
	return strings.Join(text, "\n"), api.OK
}

// numbers returns a word and the numbers behind it.
func numbers(word string, list ...int) string {
	for _, n := range list {
		word += " " + strconv.Itoa(n)
	}
	return word
}

// Read returns the reel of a card.
func Read(card string) (api.FmReel, api.Errno) {
	if len(card) > api.MaxFmCard {
		return api.FmReel{}, api.ErrLong
	}
	r, e := parse(card)
	if e != api.OK {
		return api.FmReel{}, e
	}
	// A reader need not look at the order of lines, or at the form of numbers: no other text is the card of this reel.
	again, e := Write(r)
	if e != api.OK || again != card {
		return api.FmReel{}, api.ErrForm
	}
	return r, api.OK
}

// lines yields the lines of a text, each without its line feed.
func lines(text string) iter.Seq[string] {
	return func(yield func(string) bool) {
		for rest := text; rest != ""; {
			line, behind, _ := strings.Cut(rest, "\n")
			if !yield(line) {
				return
			}
			rest = behind
		}
	}
}

// reader reads the words of a line one after the other; its methods panic if there is no such word.
type reader struct{ words []string }

// word returns the next word.
func (x *reader) word() string {
	if len(x.words) == 0 {
		panic(api.ErrForm)
	}
	w := x.words[0]
	x.words = x.words[1:]
	return w
}

// number returns the next word as a number.
func (x *reader) number() int {
	n, err := strconv.Atoi(x.word())
	if err != nil {
		panic(api.ErrForm)
	}
	return n
}

// numberAt returns the number behind the next word, which is this one.
func (x *reader) numberAt(word string) int {
	x.skip(word)
	return x.number()
}

// skip reads the next word, which is this one.
func (x *reader) skip(word string) {
	if x.word() != word {
		panic(api.ErrForm)
	}
}

// base returns the next word as a base.
func (x *reader) base() int {
	w := x.word()
	for i, b := range baseWords {
		if b == w {
			return api.FmNitrate + i
		}
	}
	panic(api.ErrForm)
}

// line reads a line of a card into its reel.
func (x *reader) line(r *api.FmReel) {
	switch x.word() {
	case "REEL":
		r.Name = strings.Clone(x.word()) // not a part of the card: a result shares no memory with an argument
		r.Gauge = x.numberAt("GAUGE")
		x.skip("BASE")
		r.Base = x.base()
		r.Frames = x.numberAt("FRAMES")
	case "YEARS":
		r.Years = api.Span{Lo: x.number(), Hi: x.number()}
		r.Keep = x.numberAt("KEEP")
	case "MARK":
		r.Marks = append(r.Marks, api.FmMark{Frame: x.number(), Roll: x.number(), Number: x.number()})
	case "SYMBOL":
		r.Symbols = append(r.Symbols, api.FmSymbol{Roll: x.number(), Code: x.number()})
	case "LENGTH":
		r.Lengths = append(r.Lengths, api.FmLength{Frames: x.number(), Micro: x.number(), Error: x.number()})
	case "END":
		x.number()
	default:
		panic(api.ErrForm)
	}
}

// parse returns the reel that the lines of a card tell of.
func parse(card string) (r api.FmReel, e api.Errno) {
	defer func() {
		if recover() != nil {
			r, e = api.FmReel{}, api.ErrForm
		}
	}()
	for line := range lines(card) {
		x := reader{words: strings.Split(line, " ")}
		x.line(&r)
	}
	return r, api.OK
}
