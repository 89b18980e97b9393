package restore

import (
	"strconv"
	"strings"

	"telecine/api"
)

// The first words of the lines of a text; those of changes have none.
const (
	logWord  = "LOG"
	stepWord = "STEP"
	endWord  = "END"
	noWord   = ""
)

// digits are how many of them a number of a text has at most.
const digits = 9

// line returns a line with a word, if it is one, and then numbers.
func line(word string, numbers ...int) string {
	var words []string
	if word != noWord {
		words = append(words, word)
	}
	for _, n := range numbers {
		words = append(words, strconv.Itoa(n))
	}
	return strings.Join(words, " ") + "\n"
}

// orderError returns the error of a log that is not in order.
func orderError(log [][]api.ReChange) api.Errno {
	if len(log) > api.MaxReSteps {
		return api.ErrLong
	}
	for _, changes := range log {
		if !inOrder(changes) {
			return api.ErrArg
		}
	}
	return api.OK
}

// Write returns the text of a log.
func Write(log [][]api.ReChange) (string, api.Errno) {
	if e := orderError(log); e != api.OK {
		return "", e
	}
	lines := []string{line(logWord, len(log))}
	for _, changes := range log {
		lines = append(lines, line(stepWord, len(changes)))
		for _, c := range changes {
			lines = append(lines, line(noWord, c.Frame, c.Pixel, int(c.Old), int(c.New)))
		}
	}
	lines = append(lines, line(endWord, len(lines)))
	text := strings.Join(lines, "")
	if len(text) > api.MaxReText {
		return "", api.ErrLong
	}
	return text, api.OK
}

// reader reads a text line by line; its methods panic if it is not written like that of a log.
type reader struct {
	rest    string
	lines   int // that were read
	highest int // level of a change that was read
}

// line reads a line with a word, if it is one, and then so many numbers.
func (r *reader) line(word string, count int) (numbers []int) {
	text, rest, ended := strings.Cut(r.rest, "\n")
	r.rest = rest
	r.lines++
	words := strings.Split(text, " ")
	if word != noWord && words[0] == word {
		words = words[1:]
	} else if word != noWord {
		panic(api.ErrForm)
	}
	if !ended || len(words) != count {
		panic(api.ErrForm)
	}
	for _, w := range words {
		numbers = append(numbers, number(w))
	}
	return numbers
}

// number returns the number that a word is; it panics if it is none.
func number(word string) int {
	n, err := strconv.Atoi(word)
	if err != nil || n < 0 || len(word) > digits || strconv.Itoa(n) != word {
		panic(api.ErrForm)
	}
	return n
}

// change reads a change.
func (r *reader) change() api.ReChange {
	n := r.line(noWord, 4)
	r.highest = max(r.highest, n[2], n[3])
	return api.ReChange{Frame: n[0], Pixel: n[1], Old: byte(n[2]), New: byte(n[3])}
}

// log reads a whole text.
func (r *reader) log() (log [][]api.ReChange) {
	for range r.line(logWord, 1)[0] {
		var changes []api.ReChange
		for range r.line(stepWord, 1)[0] {
			changes = append(changes, r.change())
		}
		log = append(log, changes)
	}
	before := r.lines
	if r.line(endWord, 1)[0] != before || r.rest != "" {
		panic(api.ErrForm)
	}
	return log
}

// parse returns the log that a text tells of, and the highest level in it.
func parse(s string) (log [][]api.ReChange, highest int, e api.Errno) {
	defer func() {
		if recover() != nil {
			log, highest, e = nil, 0, api.ErrForm
		}
	}()
	r := reader{rest: s}
	log = r.log()
	return log, r.highest, api.OK
}

// Read returns the log of a text.
func Read(s string) ([][]api.ReChange, api.Errno) {
	if len(s) > api.MaxReText {
		return nil, api.ErrLong
	}
	log, highest, e := parse(s)
	if e == api.OK {
		e = orderError(log)
	}
	// A level that is no byte was cut off to one, and the number of steps comes before it.
	if e == api.OK && highest > api.SnWhite {
		e = api.ErrArg
	}
	if e != api.OK {
		return nil, e
	}
	return log, api.OK
}
