package restore

import (
	"slices"
	"strings"
	"testing"

	"telecine/api"
)

// expectText checks what Write returns for a log without an error, and that Read returns the log.
func expectText(t *testing.T, log [][]api.ReChange, want string) {
	t.Helper()
	if text, e := Write(log); text != want || e != api.OK {
		t.Errorf("Write of %v = %q, %d; want %q", log, text, e, want)
	}
	if back, e := Read(want); !alikeLogs(back, log) || e != api.OK {
		t.Errorf("Read of %q = %v, %d; want %v", want, back, e, log)
	}
}

// row returns the changes of the first pixels of a frame, from 100 to 200.
func row(frame, count int) (l []api.ReChange) {
	for i := range count {
		l = append(l, changes(frame, i, 100, 200)...)
	}
	return l
}

// P8.7, P8.8: texts of logs, line by line.
func TestText(t *testing.T) {
	expectText(t, nil, "LOG 0\nEND 1\n")
	expectText(t, logOf(), "LOG 0\nEND 1\n")
	expectText(t, logOf(nil), "LOG 1\nSTEP 0\nEND 2\n")
	expectText(t, logOf(nil, changes(11, 2303, 0, 255)), "LOG 2\nSTEP 0\nSTEP 1\n11 2303 0 255\nEND 4\n")
	expectText(t, logOf(changes(0, 0, 255, 0, 0, 1, 9, 10, 1, 0, 99, 100), nil, changes(0, 0, 0, 1)), "LOG 3\nSTEP 3\n0 0 255 0\n0 1 9 10\n1 0 99 100\nSTEP 0\nSTEP 1\n0 0 0 1\nEND 8\n")
	expectText(t, make([][]api.ReChange, 20), "LOG 20\n"+strings.Repeat("STEP 0\n", 20)+"END 21\n")
	expectText(t, logOf(row(0, 2304), row(7, 1000)), slowText(logOf(row(0, 2304), row(7, 1000))))
}

// logWith returns a log whose text has so many bytes, about 60000: its levels get as many digits as that needs.
func logWith(bytes int) [][]api.ReChange {
	grown := row(1, 2304)
	for i := range grown {
		grown[i].Old, grown[i].New = 1, 2
	}
	log := logOf(row(0, 2304), grown)
	for i := range bytes - len(slowText(log)) {
		if i%4 < 2 {
			grown[i/4].Old *= 10
		} else {
			grown[i/4].New *= 10
		}
	}
	return log
}

// P8.7, P8.8: how many bytes a text can have.
func TestLongText(t *testing.T) {
	for bytes := 59990; bytes <= 60000; bytes++ {
		text := slowText(logWith(bytes))
		if len(text) != bytes {
			t.Errorf("%d bytes; want %d", len(text), bytes)
		}
		expectText(t, logWith(bytes), text)
	}
	all := row(0, 2304)
	for frame := range 11 {
		all = append(all, row(frame+1, 2304)...)
	}
	for _, log := range [][][]api.ReChange{logWith(60001), logWith(60002), logOf(all), slices.Repeat(logOf(all), 20)} {
		if text, e := Write(log); text != "" || e != api.ErrLong {
			t.Errorf("Write: %d bytes, %d", len(text), e)
		}
	}
	if log, e := Read(slowText(logWith(60001))); log != nil || e != api.ErrLong {
		t.Errorf("Read: %d steps, %d", len(log), e)
	}
}

// P8.7: logs that are too long, or not in order.
func TestWriteErrors(t *testing.T) {
	long := logOf(row(0, 2304), row(1, 2304))
	for i, c := range []struct {
		log [][]api.ReChange
		e   api.Errno
	}{
		{make([][]api.ReChange, 21), api.ErrLong}, {slices.Repeat(logOf(changes(0, 0, 1, 1)), 21), api.ErrLong}, {make([][]api.ReChange, 1000), api.ErrLong},
		{logOf(changes(12, 0, 0, 1)), api.ErrArg}, {logOf(changes(-1, 0, 0, 1)), api.ErrArg}, {logOf(changes(0, 2304, 0, 1)), api.ErrArg}, {logOf(changes(0, -1, 0, 1)), api.ErrArg}, {logOf(changes(1<<62, 0, 0, 1)), api.ErrArg}, {logOf(changes(0, -1<<62, 0, 1)), api.ErrArg}, {logOf(changes(0, 0, 7, 7)), api.ErrArg},
		{logOf(changes(0, 1, 1, 2, 0, 1, 1, 2)), api.ErrArg}, {logOf(changes(0, 1, 1, 2, 0, 0, 1, 2)), api.ErrArg}, {logOf(changes(1, 0, 1, 2, 0, 1, 1, 2)), api.ErrArg}, {logOf(changes(1, 0, 1, 2, 0, 0, 1, 2)), api.ErrArg}, {logOf(nil, lifted(), changes(0, 0, 1, 2, 0, 1, 3, 3)), api.ErrArg},
		{logOf(changes(0, 1, 1, 2, 1, 0, 1, 2)), api.OK}, {logOf(changes(0, 2303, 1, 2, 11, 0, 1, 2)), api.OK}, {logOf(changes(0, 5, 1, 2), changes(0, 0, 1, 2)), api.OK},
		// The order comes before the bytes.
		{long, api.ErrLong}, {append(long, changes(0, 0, 1, 1)), api.ErrArg},
	} {
		if text, e := Write(c.log); e != c.e || e != api.OK && text != "" {
			t.Errorf("%d: Write = %q, %d; want %d", i, text, e, c.e)
		}
	}
}

// P8.8: texts that are not written like that of a log.
func TestReadForm(t *testing.T) {
	right := "LOG 1\nSTEP 1\n0 0 1 2\nEND 3\n"
	if log, e := Read(right); !alikeLogs(log, logOf(changes(0, 0, 1, 2))) || e != api.OK {
		t.Errorf("Read = %v, %d", log, e)
	}
	for _, s := range []string{
		"", "\n", " ", "LOG", "LOG\n", "LOG 0", "LOG 0\n", "LOG 0\nEND 1", "END 0\n", "END 1\n", "LOG 0\n\nEND 2\n", "\nLOG 0\nEND 2\n", "LOG 0\nEND 1\n\n", "LOG 0\nEND 1\nEND 2\n", "LOG 0\nEND 1\n ", right + right, right[:len(right)-1], right + "\n", right + "x", "LOG 0\r\nEND 1\r\n",
		// Not as many lines, steps or changes as it says.
		"LOG 0\nEND 0\n", "LOG 0\nEND 2\n", "LOG 1\nEND 1\n", "LOG 1\nEND 2\n", "LOG 0\nSTEP 0\nEND 2\n", "LOG 2\nSTEP 0\nEND 2\n", "LOG 1\nSTEP 0\nSTEP 0\nEND 3\n", "LOG 1\nSTEP 1\nEND 2\n", "LOG 1\nSTEP 0\n0 0 1 2\nEND 3\n", "LOG 1\nSTEP 2\n0 0 1 2\nEND 3\n", "LOG 1\nSTEP 1\n0 0 1 2\n0 1 1 2\nEND 4\n", "LOG 1\nSTEP 1\n0 0 1 2\nEND 4\n", "LOG 1\nSTEP 1\n0 0 1 2\nEND 2\n", "LOG 999999999\nEND 1\n", "LOG 1\nSTEP 999999999\nEND 2\n", "LOG 1\n0 0 1 2\nEND 2\n", "LOG 0\n0 0 1 2\nEND 2\n", "LOG 2\nSTEP 0\n0 0 1 2\nSTEP 1\nEND 4\n",
		// Words that are others, or at other places.
		"log 0\nEND 1\n", "Log 0\nEND 1\n", "LOGS 0\nEND 1\n", "LO 0\nEND 1\n", "0\nEND 1\n", "LOG 0\nend 1\n", "LOG 0\n1\n", "STEP 0\nEND 1\n", "LOG 1\nLOG 0\nEND 2\n", "LOG 1\nstep 0\nEND 2\n", "LOG 1\n0\nEND 2\n", "LOG 1\nEND 0\nEND 2\n", "LOG LOG 0\nEND 1\n", "LOG 1\nSTEP 1\nSTEP 0 0 1 2\nEND 3\n", "LOG 1\nSTEP 1\nEND 0 1 2\nEND 3\n", "LOG 1\nSTEP 1\na 0 1 2\nEND 3\n", "LOG 1\nSTEP 1\n0 0 1 a\nEND 3\n",
		// Too few numbers in a line, or too many.
		"LOG\nEND 1\n", "LOG \nEND 1\n", "LOG 0 0\nEND 1\n", "LOG 0\nEND\n", "LOG 0\nEND 1 1\n", "LOG 1\nSTEP\nEND 2\n", "LOG 1\nSTEP 0 0\nEND 2\n", "LOG 1\nSTEP 1\n0 0 1\nEND 3\n", "LOG 1\nSTEP 1\n0 0 1 2 3\nEND 3\n", "LOG 1\nSTEP 1\n\nEND 3\n",
		// Other spaces, and other characters.
		" LOG 0\nEND 1\n", "LOG  0\nEND 1\n", "LOG 0 \nEND 1\n", "LOG\t0\nEND 1\n", "LOG 0\n END 1\n", "LOG 0\nEND 1 \n", "LOG 1\nSTEP 1\n 0 0 1 2\nEND 3\n", "LOG 1\nSTEP 1\n0 0 1 2 \nEND 3\n", "LOG 1\nSTEP 1\n0 0  1 2\nEND 3\n", "LOG 1\nSTEP 1\n0\t0 1 2\nEND 3\n", "LOG 1\nSTEP 1\n0,0,1,2\nEND 3\n",
		// Numbers that are written in another way.
		"LOG 00\nEND 1\n", "LOG +0\nEND 1\n", "LOG -0\nEND 1\n", "LOG 0\nEND 01\n", "LOG 0\nEND +1\n", "LOG 01\nSTEP 0\nEND 2\n", "LOG 1\nSTEP 00\nEND 2\n", "LOG 1\nSTEP -1\nEND 2\n", "LOG -1\nEND 1\n", "LOG 1\nSTEP 1\n0 0 1 02\nEND 3\n", "LOG 1\nSTEP 1\n0 0 +1 2\nEND 3\n", "LOG 1\nSTEP 1\n0 -1 1 2\nEND 3\n", "LOG 1\nSTEP 1\n-1 0 1 2\nEND 3\n", "LOG 1\nSTEP 1\n0 0 1 -2\nEND 3\n", "LOG 1\nSTEP 1\n0 0 1 0x2\nEND 3\n", "LOG 1\nSTEP 1\n0 0 1 2.0\nEND 3\n", "LOG 1\nSTEP 1\n0 1_0 1 2\nEND 3\n", "LOG 1\nSTEP 1\n0 0 1 \xd9\xa2\nEND 3\n",
		"LOG 1\nSTEP 1\n0 0 1 1234567890\nEND 3\n", "LOG 1\nSTEP 1\n1000000000 0 1 2\nEND 3\n", "LOG 1\nSTEP 1\n0 0 99999999999999999999 2\nEND 3\n", "LOG 1\nSTEP 1\n0 000000000 1 2\nEND 3\n", "LOG 0\nEND 18446744073709551617\n", "LOG 18446744073709551616\nEND 1\n",
		strings.Repeat("a", 60000), strings.Repeat("\n", 60000), strings.Repeat(" ", 60000), right + strings.Repeat("\x00", 60000-len(right)),
	} {
		if log, e := Read(s); log != nil || e != api.ErrForm {
			t.Errorf("Read of %.80q = %v, %d", s, log, e)
		}
	}
}

// P8.8: texts with the right form of logs that are too long, or not in order.
func TestReadErrors(t *testing.T) {
	for _, c := range []struct {
		s string
		e api.Errno
	}{
		{"LOG 20\n" + strings.Repeat("STEP 0\n", 20) + "END 21\n", api.OK}, {"LOG 21\n" + strings.Repeat("STEP 0\n", 21) + "END 22\n", api.ErrLong}, {"LOG 5000\n" + strings.Repeat("STEP 0\n", 5000) + "END 5001\n", api.ErrLong}, {"LOG 20\n" + strings.Repeat("STEP 0\n", 21) + "END 22\n", api.ErrForm},
		{"LOG 1\nSTEP 1\n0 0 1 1\nEND 3\n", api.ErrArg}, {"LOG 1\nSTEP 1\n0 0 255 256\nEND 3\n", api.ErrArg}, {"LOG 1\nSTEP 1\n0 0 256 1\nEND 3\n", api.ErrArg}, {"LOG 1\nSTEP 1\n0 0 255 254\nEND 3\n", api.OK}, {"LOG 1\nSTEP 1\n0 0 257 3\nEND 3\n", api.ErrArg}, {"LOG 1\nSTEP 1\n0 0 3 999999999\nEND 3\n", api.ErrArg}, {"LOG 2\nSTEP 1\n0 0 3 300\nSTEP 1\n0 0 1 2\nEND 5\n", api.ErrArg}, {"LOG 1\nSTEP 2\n0 0 300 3\n0 1 1 2\nEND 4\n", api.ErrArg},
		{"LOG 1\nSTEP 1\n12 0 1 2\nEND 3\n", api.ErrArg}, {"LOG 1\nSTEP 1\n11 0 1 2\nEND 3\n", api.OK}, {"LOG 1\nSTEP 1\n0 2304 1 2\nEND 3\n", api.ErrArg}, {"LOG 1\nSTEP 1\n0 2303 1 2\nEND 3\n", api.OK}, {"LOG 1\nSTEP 1\n999999999 999999999 1 2\nEND 3\n", api.ErrArg},
		{"LOG 1\nSTEP 2\n0 1 1 2\n0 0 1 2\nEND 4\n", api.ErrArg}, {"LOG 1\nSTEP 2\n0 1 1 2\n0 1 2 3\nEND 4\n", api.ErrArg}, {"LOG 1\nSTEP 2\n1 0 1 2\n0 1 2 3\nEND 4\n", api.ErrArg},
		// The form comes before all of it; too many steps come before their order.
		{"LOG 1\nSTEP 1\n0 0 1 300\nEND 4\n", api.ErrForm}, {"LOG 1\nSTEP 1\n0 0 1 1\nEND 3\n\n", api.ErrForm}, {"LOG 21\nSTEP 1\n0 0 1 1\n" + strings.Repeat("STEP 0\n", 20) + "END 23\n", api.ErrLong}, {"LOG 21\nSTEP 1\n0 0 1 300\n" + strings.Repeat("STEP 0\n", 20) + "END 23\n", api.ErrLong}, {"LOG 21\nSTEP 1\n0 0 1\n" + strings.Repeat("STEP 0\n", 20) + "END 23\n", api.ErrForm},
		{strings.Repeat("a", 60001), api.ErrLong}, {"LOG 0\nEND 1\n" + strings.Repeat("\n", 60000), api.ErrLong}, {strings.Repeat("\n", 1<<20), api.ErrLong},
	} {
		log, e := Read(c.s)
		want, f := slowRead(c.s)
		if e != c.e || e != api.OK && log != nil || f != e || !alikeLogs(log, want) {
			t.Errorf("Read of %.80q = %v, %d; want %d; slowly %v, %d", c.s, log, e, c.e, want, f)
		}
	}
}
