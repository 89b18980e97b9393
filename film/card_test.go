package film

import (
	"strings"
	"testing"

	"telecine/api"
)

// nanaCard is the card of the example's reel.
const nanaCard = `REEL nana-2 GAUGE 35 BASE nitrate FRAMES 1000
YEARS 1925 1940 KEEP 3
MARK 10 4 100
MARK 42 4 102
MARK 130 4 108
MARK 200 7 30
MARK 215 7 31
SYMBOL 4 12
SYMBOL 7 10
LENGTH 100 1891000 1000
LENGTH 200 3780000 2500
END 11
`

// smallCard is the card of a reel with nothing at its edges.
const smallCard = "REEL a GAUGE 8 BASE acetate FRAMES 1\nYEARS 1900 1901 KEEP 0\nEND 2\n"

// P1.7: Write returns the card, line by line.
func TestWrite(t *testing.T) {
	small := api.FmReel{Name: "a", Gauge: api.Fm8, Base: api.FmAcetate, Frames: 1, Years: api.Span{Lo: 1900, Hi: 1901}}
	poly := small
	poly.Base, poly.Gauge = api.FmPolyester, api.Fm16
	for i, c := range []struct {
		reel api.FmReel
		card string
	}{
		{nana(), nanaCard}, {small, smallCard}, {poly, strings.Replace(smallCard, "8 BASE acetate", "16 BASE polyester", 1)},
	} {
		if s, e := Write(c.reel); s != c.card || e != api.OK {
			t.Errorf("%d: Write = %q, %d", i, s, e)
		}
		if r, e := Read(c.card); !sameReel(r, c.reel) || e != api.OK {
			t.Errorf("%d: Read = %+v, %d", i, r, e)
		}
	}
}

// P1.7: what is the card of no reel is refused, whatever is wrong with it.
func TestReadRefuses(t *testing.T) {
	change := func(old, now string) string {
		if !strings.Contains(nanaCard, old) {
			t.Fatalf("%q is not in the card", old)
		}
		return strings.Replace(nanaCard, old, now, 1)
	}
	for i, card := range []string{
		"", "\n", "END 0\n", "REEL", "REEL \n", "REEL a GAUGE 8", strings.TrimSuffix(nanaCard, "\n"), nanaCard + "\n", nanaCard + "END 12\n", nanaCard + nanaCard, "\n" + nanaCard, " " + nanaCard,
		change("END 11\n", ""), change("END 11", "END 10"), change("END 11", "END 12"), change("END 11", "END"), change("END 11", "END 11 "), change("END 11", "END -11"),
		// Words.
		change("REEL", "reel"), change("GAUGE", "WIDTH"), change("BASE", "base"), change("FRAMES", "FRAME"), change("YEARS", "YEAR"), change("KEEP", "HOLD"), change("MARK", "mark"), change("SYMBOL", "SIGN"), change("LENGTH", "LEN"), change("nitrate", "Nitrate"), change("nitrate", "paper"), change("nitrate", "1"), change("nitrate", ""),
		// Numbers.
		change("1000\n", "01000\n"), change("1000\n", "+1000\n"), change("1000\n", "1_000\n"), change("1000\n", "0x3e8\n"), change("1000\n", "1e3\n"), change("1000\n", "1000.\n"), change("KEEP 3", "KEEP 03"), change("KEEP 3", "KEEP -0"), change("KEEP 3", "KEEP"), change("KEEP 3", "KEEP "), change("KEEP 3", "KEEP x"), change("KEEP 3", "KEEP 3 4"), change("KEEP 3", "KEEP 99999999999999999999"), change("KEEP 3", "KEEP 18446744073709551619"),
		// Spaces and line feeds.
		change("MARK 42", "MARK  42"), change("MARK 42", "MARK\t42"), change("MARK 42", " MARK 42"), change("102\n", "102 \n"), change("102\n", "102\r\n"), change("102\n", "102\n\n"), change("102\n", "102 "), change("4 102", "4\n102"),
		// Lines that are missing, too many, or in another order.
		change("MARK 42 4 102", "MARK 42 4"), change("MARK 42 4 102", "MARK 42 4 102 1"), change("YEARS 1925 1940 KEEP 3\n", ""), change("REEL nana-2 GAUGE 35 BASE nitrate FRAMES 1000\n", ""), change("YEARS 1925 1940 KEEP 3\n", "YEARS 1925 1940 KEEP 3\nYEARS 1925 1940 KEEP 3\n"),
		change("SYMBOL 7 10\nLENGTH 100 1891000 1000\n", "LENGTH 100 1891000 1000\nSYMBOL 7 10\n"), change("MARK 215 7 31\nSYMBOL 4 12\n", "SYMBOL 4 12\nMARK 215 7 31\n"), change("END 11\n", "END 11\nMARK 300 7 40\n"),
		// Reels for which Check returns an error.
		change("nana-2", "nana--2"), change("nana-2", "Nana"), change("nana-2", ""), change("GAUGE 35", "GAUGE 9"), change("FRAMES 1000", "FRAMES 215"), change("FRAMES 1000", "FRAMES 200001"), change("KEEP 3", "KEEP 51"), change("1925 1940", "1941 1940"), change("1925 1940", "1889 1940"), change("MARK 42 4", "MARK 10 4"), change("MARK 42 4", "MARK 42 100"), change("MARK 42 4", "MARK 42 -4"), change("SYMBOL 4 12", "SYMBOL 4 20"), change("LENGTH 100", "LENGTH 0"), change("LENGTH 100", "LENGTH 1001"),
		strings.Replace(strings.Replace(nanaCard, "SYMBOL 4 12\n", strings.Repeat("SYMBOL 4 12\n", 20), 1), "END 11", "END 30", 1),
		strings.Repeat("a", api.MaxFmCard),
	} {
		if r, e := Read(card); e != api.ErrForm || !sameReel(r, api.FmReel{}) {
			t.Errorf("%d: Read of %q = %+v, %d", i, card, r, e)
		}
	}
}

// P1.7: a card that is too long is refused as such, whatever it says.
func TestReadLong(t *testing.T) {
	for _, card := range []string{strings.Repeat("a", api.MaxFmCard+1), smallCard + strings.Repeat("\n", api.MaxFmCard), strings.Repeat(nanaCard, 100)} {
		if r, e := Read(card); e != api.ErrLong || !sameReel(r, api.FmReel{}) {
			t.Errorf("Read of %d bytes = %+v, %d", len(card), r, e)
		}
	}
}

// P1.13: reels come back from their cards, also the fullest one.
func TestReadIsBehindWrite(t *testing.T) {
	d := dice(13)
	list := []api.FmReel{nana(), full()}
	for range 2000 {
		list = append(list, anyReel(d))
	}
	for _, r := range list {
		card, e := Write(r)
		back, f := Read(card)
		if e != api.OK || f != api.OK || !sameReel(back, r) {
			t.Fatalf("%+v (%d) came back as %+v (%d)", r, e, back, f)
		}
	}
}

// P1.13: a card in which one byte is another one, is left out or is added is refused, or written again as it is.
func TestWriteIsBehindRead(t *testing.T) {
	read := 0
	hold := func(card string) {
		r, e := Read(card)
		again, f := Write(r)
		switch {
		case e == api.ErrForm:
		case e != api.OK || f != api.OK || again != card:
			t.Fatalf("Read of %q: %d; Write = %q, %d", card, e, again, f)
		default:
			read++
		}
	}
	for i := range len(nanaCard) {
		hold(nanaCard[:i] + nanaCard[i+1:])
		for _, b := range []byte("0123456789 -\nAEMRaz_+\t\x00\xff") {
			hold(nanaCard[:i] + string([]byte{b}) + nanaCard[i+1:])
			hold(nanaCard[:i] + string([]byte{b}) + nanaCard[i:])
		}
	}
	if read < 500 {
		t.Errorf("only %d cards were read", read)
	}
}
