package speak_test

import (
	"strings"
	"testing"

	"escrow/api"
	"escrow/speak"
	"escrow/term"
)

// The chapter's second example.
func TestReadExamples(t *testing.T) {
	reads(t, "( n1   #2 )", pair(name(1), num(2)))
	refuses(t, "(n1 #2", api.ErrShort, 6)
	refuses(t, "n16", api.ErrName, 1)
	refuses(t, "#01", api.ErrNumber, 1)
	refuses(t, "p1>1(n0)", api.ErrName, 3)
	refuses(t, "n1 n2", api.ErrTail, 3)
	refuses(t, "x", api.ErrWord, 0)
	refuses(t, "h (n1)", api.ErrWord, 1)
	refuses(t, "", api.ErrShort, 0)
}

// P6.2: each kind is read.
func TestRead(t *testing.T) {
	for text, x := range written() {
		reads(t, text, x)
	}
}

// P6.2: blanks may stand ahead of a term, behind it, and ahead of a ), and none need stand anywhere.
func TestReadBlanks(t *testing.T) {
	n1, n2 := name(1), name(2)
	for text, x := range map[string]api.Tree{
		" n1": n1, "n1 ": n1, "   n1   ": n1, "  #12 ": num(12), ` "" `: data(""), ` " a " `: data(" a "),
		"(n1n2)": pair(n1, n2), "(n1 n2)": pair(n1, n2), "(  n1  n2  )": pair(n1, n2), "( n1n2)": pair(n1, n2), "(n1n2 )": pair(n1, n2), " ( n1 n2 ) ": pair(n1, n2),
		"(#1#2)": pair(num(1), num(2)), "(n12n3)": pair(name(12), name(3)), `("a""b")`: pair(data("a"), data("b")), `(n1"b")`: pair(n1, data("b")), `("a"#1)`: pair(data("a"), num(1)),
		"((n1n2)n1)": pair(pair(n1, n2), n1), "(n1(n1n2))": pair(n1, pair(n1, n2)), "(h(n1)h(n2))": pair(hash(n1), hash(n2)),
		"h( n1)": hash(n1), "h(n1 )": hash(n1), "h(   n1   )": hash(n1), " s0( n1 ) ": sign(0, n1), "p0>1( k1 )": prom(0, 1, key(1)), " f1>0(  #0)": fake(1, 0, num(0)),
		"(  s1(  n1  )  p0>1(  n2  )  )": pair(sign(1, n1), prom(0, 1, n2)),
	} {
		reads(t, text, x)
	}
}

// P6.2: every byte of a datum in each of the ways in which it may be written, and as it is just where it may be.
func TestReadBytes(t *testing.T) {
	const lower, upper = "0123456789abcdef", "0123456789ABCDEF"
	for c := range 256 {
		b := string([]byte{byte(c)})
		for _, high := range []string{lower, upper} {
			for _, low := range []string{lower, upper} {
				reads(t, `"a\x`+high[c>>4:c>>4+1]+low[c&15:c&15+1]+`0"`, data("a"+b+"0"))
			}
		}
		switch {
		case c == '"':
			refuses(t, `"a"0"`, api.ErrTail, 3)
			reads(t, `"a\"0"`, data(`a"0`))
		case c == '\\':
			refuses(t, `"a\0"`, api.ErrWord, 3)
			reads(t, `"a\\0"`, data(`a\0`))
		case c < 32 || c > 126:
			refuses(t, `"a`+b+`0"`, api.ErrWord, 2)
			refuses(t, `"a\`+b+`0"`, api.ErrWord, 3)
		default:
			reads(t, `"a`+b+`0"`, data("a"+b+"0"))
			if c != 'x' {
				refuses(t, `"a\`+b+`00"`, api.ErrWord, 3)
			}
		}
		if !strings.Contains(lower+upper, b) {
			refuses(t, `"\x`+b+`0"`, api.ErrWord, 3)
			refuses(t, `"\x0`+b+`"`, api.ErrWord, 4)
		}
	}
}

// P6.2: at every other byte than the nine with which a term begins: ErrWord.
func TestReadFirstByte(t *testing.T) {
	for c := range 256 {
		b := string([]byte{byte(c)})
		switch {
		case b == " ":
			refuses(t, b, api.ErrShort, 1)
		case strings.Contains("n#k(hspf\"", b):
			refuses(t, b, api.ErrShort, 1)
			refuses(t, "(n1 "+b, api.ErrShort, 5)
		default:
			refuses(t, b, api.ErrWord, 0)
			refuses(t, "  "+b+"1", api.ErrWord, 2)
			refuses(t, "h("+b, api.ErrWord, 2)
			refuses(t, "(n1 "+b+")", api.ErrWord, 4)
		}
	}
}

// P6.2: all names, and the first numbers that are none.
func TestReadNames(t *testing.T) {
	for n := range 20 {
		own := textOf(num(uint64(n)))[1:]
		if n >= api.MaxNames {
			refuses(t, "n"+own, api.ErrName, 1)
			refuses(t, "k"+own, api.ErrName, 1)
			refuses(t, "s"+own+"(n0)", api.ErrName, 1)
			refuses(t, "p"+own+">0(n0)", api.ErrName, 1)
			refuses(t, "f0>"+own+"(n0)", api.ErrName, 3)
			continue
		}
		reads(t, "n"+own, name(n))
		reads(t, "k"+own, key(n))
		reads(t, "s"+own+"(n0)", sign(n, name(0)))
		for to := range api.MaxNames {
			second := own + ">" + textOf(num(uint64(to)))[1:] + "(n0)"
			if to == n {
				refuses(t, "p"+second, api.ErrName, 2+len(own))
				refuses(t, "f"+second, api.ErrName, 2+len(own))
				continue
			}
			reads(t, "p"+second, prom(n, to, name(0)))
			reads(t, "f"+second, fake(n, to, name(0)))
		}
	}
}

// P6.2, rule 3: what is read twice shares no memory.
func TestReadNewMemory(t *testing.T) {
	const text = `(h("a") (n1 n1))`
	x, _, _ := speak.Read(text)
	y, _, _ := speak.Read(text)
	all := x.Kids[:cap(x.Kids)]
	for i := range all {
		all[i] = key(1)
	}
	inner := y.Kids[0].Kids[:cap(y.Kids[0].Kids)]
	for i := range inner {
		inner[i] = key(2)
	}
	if textOf(y) != `(h(k2) (n1 n1))` {
		t.Errorf("%q", textOf(y))
	}
	reads(t, text, pair(hash(data("a")), pair(name(1), name(1))))
}

// P6.2: Parse makes the term as Of does, and tells what Read and Of refuse; then nothing is added.
func TestParse(t *testing.T) {
	p, q := term.New(), term.New()
	for range 2 {
		for _, text := range []string{`n1`, ` ( s0("a")p0>1(n1) ) `, `h(h("a"))`} {
			x, _, _ := speak.Read(text)
			want := of(t, q, x)
			u, why, at := speak.Parse(p, text)
			if u != want || why != api.OK || at != 0 || p.Len() != q.Len() {
				t.Errorf("%q: %d, error %d at %d, %d terms", text, u, why, at, p.Len())
			}
		}
	}
	long := p.Len()
	for text, w := range wrongTexts() {
		u, why, at := speak.Parse(p, text)
		if u != 0 || why != w.why || at != w.at || p.Len() != long {
			t.Errorf("%.100q: %d, error %d at %d, %d terms", text, u, why, at, p.Len())
		}
	}
}

// P6.2: Parse into a pool without room: 0, ErrMany and 0; ahead of that what Read refuses.
func TestParseFull(t *testing.T) {
	const text = `  (s9("a") n1)` // four that are new
	for room := range 6 {
		p := filled(t, room)
		long := p.Len()
		u, why, at := speak.Parse(p, text)
		if room >= 4 {
			if int(u) != long+4 || why != api.OK || at != 0 {
				t.Errorf("room %d: %d, error %d at %d", room, u, why, at)
			}
			continue
		}
		if u != 0 || why != api.ErrMany || at != 0 || p.Len() != long {
			t.Errorf("room %d: %d, error %d at %d, %d terms", room, u, why, at, p.Len())
		}
		if u, why, at = speak.Parse(p, text+"x"); u != 0 || why != api.ErrTail || at != len(text) {
			t.Errorf("a wrong text: %d, error %d at %d", u, why, at)
		}
		if u, why, at = speak.Parse(p, " #0"); u != 1 || why != api.OK || at != 0 {
			t.Errorf("one that is there: %d, error %d at %d", u, why, at)
		}
	}
}
