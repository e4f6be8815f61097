package speak_test

import (
	"math"
	"strings"
	"testing"

	"escrow/api"
	"escrow/speak"
	"escrow/term"
)

// P6.3: Read of Show is the tree, and Parse of Print the term.
func TestThereAndBack(t *testing.T) {
	d := dice(3)
	p := term.New()
	for range 3000 {
		x := anyTree(&d, 5)
		s, why := speak.Show(x)
		if why != api.OK {
			t.Fatalf("%q: error %d", textOf(x), why)
		}
		reads(t, s, x)
		of(t, p, x)
	}
	long := p.Len()
	for u := api.Term(1); int(u) <= long; u++ {
		if v, why, at := speak.Parse(p, speak.Print(p, u)); v != u || why != api.OK || at != 0 {
			t.Fatalf("the term %d: %d, error %d at %d", u, v, why, at)
		}
	}
	if p.Len() != long {
		t.Errorf("%d terms instead of %d", p.Len(), long)
	}
}

// P6.3: also of the trees at the limits; the longest text of all has room.
func TestThereAndBackLargest(t *testing.T) {
	longest := hash(broad(4095, data(strings.Repeat("\x80", api.MaxData))))
	for _, x := range []api.Tree{longest, tower(63, data("")), broad(4095, num(math.MaxUint64)), sign(9, broad(4095, key(15)))} {
		s, why := speak.Show(x)
		if why != api.OK {
			t.Fatalf("error %d", why)
		}
		reads(t, s, x)
		p := term.New()
		u := of(t, p, x)
		if v, why, _ := speak.Parse(p, speak.Print(p, u)); v != u || why != api.OK {
			t.Errorf("%d instead of %d, error %d", v, u, why)
		}
	}
}

// P6.4: all texts of one tree are read as it, and have one text of Show's.
func TestOneText(t *testing.T) {
	d := dice(4)
	for range 500 {
		x := anyTree(&d, 4)
		for range 4 {
			text := anyText(&d, x)
			reads(t, text, x)
			y, _, _ := speak.Read(text)
			shows(t, y, textOf(x))
		}
	}
}

// changed is the text with one byte put in, taken out, or in another's place.
func changed(d *dice, text string) string {
	const some = " n#k\"(hspf)>\\x0169aF\x00\xff"
	at, c := d.upTo(len(text)), some[d.upTo(len(some)):][:1]
	switch d.upTo(3) {
	case 0:
		return text[:at] + c + text[at:]
	case 1:
		return text[:at] + text[at+1:]
	}
	return text[:at] + c + text[at+1:]
}

// P6.4: whatever text is read, Show of that is read as the same, with no more nodes.
func TestOneTextOfAny(t *testing.T) {
	d := dice(5)
	read := 0
	for range 20000 {
		text := changed(&d, anyText(&d, anyTree(&d, 3)))
		x, why, at := speak.Read(text)
		fits(t, text)
		if why != api.OK {
			continue
		}
		read++
		s, why := speak.Show(x)
		y, again, _ := speak.Read(s)
		if at != 0 || why != api.OK || again != api.OK || !same(x, y) || nodesOf(y) > nodesOf(x) || len(s) > 3*len(text) {
			t.Fatalf("%q became %q: errors %d, %d", text, s, why, again)
		}
		if z, _ := speak.Show(y); z != s {
			t.Fatalf("%q and %q", s, z)
		}
	}
	if read < 1000 {
		t.Errorf("only %d were read", read)
	}
}

// fits fails if an error's place is not the first at which a text is wrong: what stands ahead of it is the beginning of a term or, where something is left, all of one.
func fits(t *testing.T, text string) {
	t.Helper()
	x, why, at := speak.Read(text)
	ahead, short := api.OK, 0
	if at >= 0 && at <= len(text) {
		_, ahead, short = speak.Read(text[:at])
	}
	good := false
	switch why {
	case api.OK:
		good = at == 0
	case api.ErrTail:
		good = ahead == api.OK && at < len(text)
	case api.ErrShort:
		good = at == len(text)
	case api.ErrWord, api.ErrNumber, api.ErrName, api.ErrLong, api.ErrLarge:
		good = ahead == api.ErrShort && short == at && at < len(text)
	}
	if !good || why != api.OK && !same(x, api.Tree{}) {
		t.Fatalf("%q: error %d at %d, ahead of it %d at %d", text, why, at, ahead, short)
	}
}

// alphabet are the bytes of all short texts.
const alphabet = "n10 ()\"\\x#h"

// rightTexts are all right texts of at most so many bytes of the alphabet, put together from the shorter ones.
func rightTexts(most int) map[string]bool {
	exact := make([]map[string]bool, most+1) // by length: what stands in them begins and ends a term
	loose := make([]map[string]bool, most+1) // with blanks around
	strs := rightData(most)
	for n := range most + 1 {
		exact[n] = map[string]bool{}
		for _, s := range strs[n] {
			exact[n][s] = true
		}
		for _, s := range []string{"n0", "n1", "n10", "n11"} {
			if len(s) == n {
				exact[n][s] = true
			}
		}
		for i := range 1 << max(n-2, 0) { // the digits behind the first one
			tail := ""
			for k := range n - 2 {
				tail += string('0' + byte(i>>k&1))
			}
			if n >= 2 {
				exact[n]["#1"+tail] = true
			}
			if n == 2 {
				exact[n]["#0"] = true
			}
		}
		if n >= 3 {
			for s := range loose[n-3] {
				exact[n]["h("+s+")"] = true
			}
		}
		for left := 0; left <= n-2; left++ {
			for a := range loose[left] {
				for b := range loose[n-2-left] {
					exact[n]["("+a+b+")"] = true
				}
			}
		}
		loose[n] = map[string]bool{}
		for s := range exact[n] {
			loose[n][s] = true
		}
		if n > 0 {
			for s := range loose[n-1] {
				loose[n][" "+s], loose[n][s+" "] = true, true
			}
		}
	}
	all := map[string]bool{}
	for _, l := range loose {
		for s := range l {
			all[s] = true
		}
	}
	return all
}

// rightData are the texts of data of at most so many bytes, by their lengths.
func rightData(most int) [][]string {
	inner := make([][]string, most+1)
	inner[0] = []string{""}
	pieces := []string{`\"`, `\\`, `\x00`, `\x01`, `\x10`, `\x11`}
	for i := range len(alphabet) {
		if c := alphabet[i : i+1]; c != `"` && c != `\` {
			pieces = append(pieces, c)
		}
	}
	for n := range most + 1 {
		for _, piece := range pieces {
			if n >= len(piece) {
				for _, s := range inner[n-len(piece)] {
					inner[n] = append(inner[n], s+piece)
				}
			}
		}
	}
	strs := make([][]string, most+1)
	for n := 2; n <= most; n++ {
		for _, s := range inner[n-2] {
			strs[n] = append(strs[n], `"`+s+`"`)
		}
	}
	return strs
}

// P6.2: of all short texts just the right ones are read, and an error has its place.
func TestAllShortTexts(t *testing.T) {
	right := rightTexts(7)
	for text := range right {
		if _, why, at := speak.Read(text); why != api.OK || at != 0 {
			t.Fatalf("%q: error %d at %d", text, why, at)
		}
	}
	level := []string{""}
	for range 6 {
		var next []string
		for _, text := range level {
			fits(t, text)
			if _, why, _ := speak.Read(text); (why == api.OK) != right[text] {
				t.Fatalf("%q: error %d", text, why)
			}
			for i := range len(alphabet) {
				next = append(next, text+alphabet[i:i+1])
			}
		}
		level = next
	}
}

// P6.5: blanks ahead of a text, right or wrong, move an error's place, and change nothing else.
func TestBlanksAhead(t *testing.T) {
	for n := range 4 {
		for text, x := range written() {
			reads(t, blanks(n)+text, x)
		}
		for text, w := range wrongTexts() {
			refuses(t, blanks(n)+text, w.why, w.at+n)
		}
	}
}

// P6.5: blanks behind a text that does not end too early change nothing.
func TestBlanksBehind(t *testing.T) {
	ends := []string{"", " ", "(", "( ", "h(", "(n1", "(n1 ", "s0(n1", "p0>1(n0  ", `"a`, "((n1 n2)"} // of those that do, blanks may stand behind these
	for n := range 4 {
		for text, x := range written() {
			reads(t, text+blanks(n), x)
			reads(t, blanks(n)+text+blanks(3-n), x)
		}
		for text, w := range wrongTexts() {
			if w.why != api.ErrShort {
				refuses(t, text+blanks(n), w.why, w.at)
			}
		}
		for _, text := range ends {
			refuses(t, text+blanks(n), api.ErrShort, len(text)+n)
		}
	}
}
