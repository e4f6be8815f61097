package letter_test

import (
	"math"
	"strconv"
	"strings"
	"testing"

	"escrow/api"
	"escrow/letter"
	"escrow/term"
)

// anyLetters are letters by chance, of all kinds.
func anyLetters(d *dice, many int) []api.Letter {
	var l []api.Letter
	for range many {
		var b []byte
		for range d.upTo(api.MaxData + 1) {
			b = append(b, byte(d.upTo(256)))
		}
		c := uint64(d.upTo(math.MaxInt32)) << d.upTo(34)
		all := letters([]uint64{c}, []string{string(b)})
		l = append(l, all[d.upTo(len(all))])
	}
	return l
}

// P11.8: Read of Build, Decode of Encode, and Parse of Print, is the letter; also in a pool that holds all the others.
func TestThereAndBack(t *testing.T) {
	d := dice(3)
	p := term.New()
	for _, l := range append(letters(numbers(), texts()), anyLetters(&d, 2000)...) {
		u, why := letter.Build(p, l)
		if why != api.OK {
			t.Fatalf("%s: error %d", tell(l), why)
		}
		isLetter(t, "Read", l)(letter.Read(p, u))
		b, _ := letter.Encode(l)
		isLetter(t, "Decode", l)(letter.Decode(b))
		parsed(t, letter.Print(l), l)
	}
}

// P11.8: unlike letters have unlike terms, bytes and lines.
func TestUnlike(t *testing.T) {
	words := []string{"", "x", "7", "deal", "abort", "aborted", "resolve", "instead", "full", "\n", `\n`, "n", "\x00", `\x00`, `"`, `\"`, `\`}
	p := term.New()
	terms, wires, lines := map[api.Term]api.Letter{}, map[string]api.Letter{}, map[string]api.Letter{}
	all := letters([]uint64{0, 1, 7, 10, 77, 1 << 63, math.MaxUint64}, words)
	for _, l := range all {
		u, _ := letter.Build(p, l)
		b, _ := letter.Encode(l)
		s := letter.Print(l)
		for _, m := range []api.Letter{terms[u], wires[string(b)], lines[s]} {
			if m.Kind != 0 {
				t.Errorf("%s is as %s", tell(l), tell(m))
			}
		}
		terms[u], wires[string(b)], lines[s] = l, l, l
	}
	if len(terms) != len(all) || len(wires) != len(all) || len(lines) != len(all) {
		t.Errorf("%d letters, %d terms, %d texts, %d lines", len(all), len(terms), len(wires), len(lines))
	}
}

// P11.8: where one letter's term stands in another's, both are read.
func TestLettersWithin(t *testing.T) {
	p := term.New()
	u, _ := letter.Build(p, api.Letter{Kind: api.LetterResolve, From: 1, C: 7, Text: "x"})
	met := ""
	for v := range p.Subs(u) {
		if l, ok := letter.Read(p, v); ok {
			met += letter.Print(l) + "\n"
		}
		if c, s, ok := letter.ReadDeal(p, v); ok {
			met += strconv.FormatUint(c, 10) + s + "\n"
		}
	}
	if want := "7x\npromise 0 7 \"x\"\npromise 1 7 \"x\"\nresolve 1 7 \"x\"\n"; met != want {
		t.Errorf("%q instead of %q", met, want)
	}
}

// P11.9: a wish with one fake is read as the one with two, and only such a text is not the one that Encode lays.
func TestStrictButFakes(t *testing.T) {
	for from := range 2 {
		l := api.Letter{Kind: api.LetterResolve, From: from, C: 7, Text: "x", Fake: true}
		b, _ := letter.Encode(l)
		same := 0
		for _, text := range spellings(l) {
			if string(laid(t, text)) == string(b) {
				same++
			}
		}
		if same != 1 {
			t.Errorf("from %d: %d of the three texts", from, same)
		}
	}
}

// answers are all that the calls tell, of letters, lines and bytes right and wrong.
func answers(t *testing.T) string {
	p := term.New()
	s := ""
	add := func(l ...int) {
		for _, n := range l {
			s += " " + strconv.Itoa(n)
		}
	}
	ls := letters([]uint64{0, 7}, []string{"", "x"})
	for _, x := range wrongs() {
		ls = append(ls, x.l)
	}
	for _, l := range ls {
		u, why := letter.Build(p, l)
		b, again := letter.Encode(l)
		m, ok := letter.Read(p, u)
		add(int(u), int(why), int(again), letter.To(l), int(letter.Check(l)), m.Kind)
		s += string(b) + letter.Print(l) + strconv.FormatBool(ok)
		line := strings.Replace(letter.Print(l), "7", "07", 1)
		_, wrong, at := letter.Parse(line)
		add(int(wrong), at)
	}
	return s
}

// P11.1 to P11.7: what is answered is the same each time.
func TestSameTwice(t *testing.T) {
	if answers(t) != answers(t) {
		t.Errorf("other answers the second time")
	}
}
