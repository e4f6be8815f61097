package letter_test

import (
	"strconv"
	"strings"
	"testing"

	"escrow/api"
	"escrow/letter"
	"escrow/speak"
	"escrow/term"
)

// P11.4: the letters of terms put down by hand; the pool stays as it is.
func TestRead(t *testing.T) {
	p := term.New()
	for _, x := range samples() {
		u := of(t, p, x.term)
		was := p.Len()
		isLetter(t, x.term, x.l)(letter.Read(p, u))
		isLetter(t, x.term, x.l)(letter.Read(p, u))
		if p.Len() != was {
			t.Errorf("%s: %d terms were added", x.term, p.Len()-was)
		}
	}
}

// P11.4: a wish to resolve has Fake, if one promise is a fake, or both are.
func TestReadFakes(t *testing.T) {
	p := term.New()
	for from, who := range []string{"s0", "s1"} {
		l := api.Letter{Kind: api.LetterResolve, From: from, C: 7, Text: "x", Fake: true}
		for _, both := range []string{"f0>1(D) f1>0(D)", "p0>1(D) f1>0(D)", "f0>1(D) p1>0(D)"} {
			text := who + `(("resolve" (` + strings.ReplaceAll(both, "D", deal7) + `)))`
			isLetter(t, text, l)(letter.Read(p, of(t, p, text)))
		}
	}
}

// P11.4: what is nearly a letter is none.
func TestReadNone(t *testing.T) {
	p := term.New()
	for _, text := range []string{
		`#7`, `"x"`, `"full"`, `n0`, `k0`, `k2`, deal7, `h(` + deal7 + `)`, `h(("full" #7))`, `h("full")`, `s0("deal")`, `s0(#7)`, `s2(("full" #7))`, `s0(("full" #7))`, `p0>1(("full" #7))`,
		`p0>2(` + deal7 + `)`, `p2>0(` + deal7 + `)`, `p2>1(` + deal7 + `)`, `p1>2(` + deal7 + `)`, `p3>4(` + deal7 + `)`, `f0>2(` + deal7 + `)`, `f1>15(` + deal7 + `)`, `p0>1(#7)`, `p0>1((#7 "x"))`, `p0>1(("abort" #7))`, `p0>1(p0>1(` + deal7 + `))`, `f0>1(s0(` + deal7 + `))`,
		`s2(` + deal7 + `)`, `s3(` + deal7 + `)`, `s15(` + deal7 + `)`, `s0(s0(` + deal7 + `))`, `s0(("deal" #7))`, `s0((#7 "x"))`, `s0(p0>1(` + deal7 + `))`,
		`s1(("abort" #7))`, `s2(("abort" #7))`, `s3(("abort" #7))`, `("abort" #7)`, `s0(("abort" "7"))`, `s0(("abort" n7))`, `s0(("abort" k7))`, `s0(("abort" (#7 "x")))`, `s0(("abort" ` + deal7 + `))`, `s0((#7 "abort"))`, `s0("abort")`, `s0(h("abort"))`, `s0((h("abort") #7))`,
		`s0(("aborted" #7))`, `s1(("aborted" #7))`, `s3(("aborted" #7))`, `("aborted" #7)`, `s2(("aborted" n7))`, `s2(("aborted" ` + deal7 + `))`, `s2(("token" #7))`,
		`s0(("instead" ` + deal7 + `))`, `s1(("instead" ` + deal7 + `))`, `s2(("instead" #7))`, `s2(("instead" (#7 "x")))`, `("instead" ` + deal7 + `)`, `s2(("instead" s2(("instead" ` + deal7 + `))))`,
		`("full" "7")`, `("full" n7)`, `("full" ` + deal7 + `)`, `(#7 "full")`, `("full" h(#7))`, `("Full" #7)`, `("" #7)`, `s0(("" #7))`, `s0((n0 #7))`, `("promise" #7)`, `s0(("sign" #7))`, `s0(("" ` + deal7 + `))`, `s1(("promise" ` + deal7 + `))`,
	} {
		isNone(t, text)(letter.Read(p, of(t, p, text)))
	}
	d8, dy := `("deal" (#8 "x"))`, `("deal" (#7 "y"))`
	ways := strings.NewReplacer("D", deal7, "E", d8, "Y", dy)
	for _, text := range []string{
		`(p1>0(D) p0>1(D))`, `(p0>1(D) p0>1(D))`, `(p1>0(D) p1>0(D))`, `(p0>1(D) p1>0(E))`, `(p0>1(E) p1>0(D))`, `(p0>1(D) p1>0(Y))`, `(f0>1(Y) p1>0(D))`, `(f0>1(D) f0>1(D))`, `(p0>1(D) f0>1(D))`, `(f1>0(D) p1>0(D))`,
		`(p0>2(D) p1>0(D))`, `(p0>1(D) p1>2(D))`, `(p0>1(D) p2>0(D))`, `p0>1(D)`, `(p0>1(D) D)`, `(D p1>0(D))`, `(D D)`, `(s0(D) s1(D))`, `(p0>1(D) s1(D))`, `(s0(D) p1>0(D))`, `(h(D) h(D))`, `(p0>1(#7) p1>0(#7))`, `(p0>1(D) (p1>0(D) p1>0(D)))`, `D`, `#7`,
	} {
		for _, who := range []string{"s0", "s1"} {
			text := who + `(("resolve" ` + ways.Replace(text) + `))`
			isNone(t, text)(letter.Read(p, of(t, p, text)))
		}
	}
	both := ways.Replace(`(p0>1(D) p1>0(D))`)
	for _, text := range []string{`s2(("resolve" ` + both + `))`, `s3(("resolve" ` + both + `))`, `("resolve" ` + both + `)`, `s0(` + both + `)`, `s0(("instead" ` + both + `))`, `s2(("instead" ` + both + `))`, `s0((` + both + ` "resolve"))`, both} {
		isNone(t, text)(letter.Read(p, of(t, p, text)))
	}
}

// P11.4: of no term, and of no pool, none.
func TestReadNoTerm(t *testing.T) {
	p := term.New()
	of(t, p, `s0(`+deal7+`)`)
	for _, u := range strange(p.Len()) {
		isNone(t, "no term")(letter.Read(p, u))
		isNone(t, "no pool")(letter.Read(nil, u))
		isNone(t, "an empty pool")(letter.Read(term.New(), u))
	}
	isNone(t, "no pool")(letter.Read(nil, 6))
	isNone(t, "an empty pool")(letter.Read(term.New(), 6))
}

// P11.4: of all that is unlike a letter in one node, what the judge tells.
func TestReadNear(t *testing.T) {
	met := map[bool]int{}
	for _, x := range samples() {
		p := term.New()
		for _, y := range neighbours(t, treeOf(t, x.term)) {
			u := of(t, p, spell(y))
			want, ok := judge(y)
			if l, is := letter.Read(p, u); l != want || is != ok {
				t.Errorf("%s: %s, %t instead of %s, %t", spell(y), tell(l), is, tell(want), ok)
			}
			met[ok]++
		}
	}
	if met[true] < 200 || met[false] < 5000 {
		t.Errorf("%d were letters, %d were none", met[true], met[false])
	}
}

// P11.4: of terms that are letters but for what chance has put wrong in them, what the judge tells.
func TestReadAny(t *testing.T) {
	d := dice(11)
	p := term.New()
	met := map[int]int{}
	for range 10000 {
		u := of(t, p, anyLetter(&d))
		want, ok := judge(p.Tree(u))
		if l, is := letter.Read(p, u); l != want || is != ok {
			t.Errorf("%s: %s, %t instead of %s, %t", speak.Print(p, u), tell(l), is, tell(want), ok)
		}
		met[want.Kind]++
	}
	for kind := range 8 {
		if met[kind] < 100 {
			t.Errorf("only %d of kind %d", met[kind], kind)
		}
	}
}

// mostly is what is right, or else, at times, something else.
func mostly(d *dice, right string, wrong ...string) string {
	if d.upTo(12) > 0 {
		return right
	}
	return wrong[d.upTo(len(wrong))]
}

func anyNumber(d *dice) string {
	return mostly(d, "#7", "#8", "n7", `"7"`, "h(#7)", "(#7 #7)", deal7)
}

func anyWord(d *dice, right string) string {
	return mostly(d, `"`+right+`"`, `"deal"`, `"abort"`, `"aborted"`, `"resolve"`, `"instead"`, `"full"`, `""`, "n0", "#7")
}

func anyDeal(d *dice) string {
	return "(" + anyWord(d, "deal") + " (" + anyNumber(d) + " " + mostly(d, `"x"`, `"y"`, "#7", `("x" "x")`) + "))"
}

func anyPromise(d *dice, names string) string {
	return []string{"p", "p", "p", "f"}[d.upTo(4)] + mostly(d, names, "0>1", "1>0", "0>2", "2>1", "3>0") + "(" + anyDeal(d) + ")"
}

func anySigned(d *dice, who, what string) string {
	who = mostly(d, "s"+who, "s0", "s1", "s2", "s3", "h", "p0>1", "")
	if who == "" {
		return what
	}
	return who + "(" + what + ")"
}

// anyLetter is the text of a term that is mostly a letter's.
func anyLetter(d *dice) string {
	party := strconv.Itoa(d.upTo(2))
	switch d.upTo(7) {
	case 0:
		return anyPromise(d, []string{"0>1", "1>0"}[d.upTo(2)])
	case 1:
		return anySigned(d, party, anyDeal(d))
	case 2:
		return anySigned(d, "0", "("+anyWord(d, "abort")+" "+anyNumber(d)+")")
	case 3:
		return anySigned(d, party, "("+anyWord(d, "resolve")+" ("+anyPromise(d, "0>1")+" "+anyPromise(d, "1>0")+"))")
	case 4:
		return anySigned(d, "2", "("+anyWord(d, "aborted")+" "+anyNumber(d)+")")
	case 5:
		return anySigned(d, "2", "("+anyWord(d, "instead")+" "+anyDeal(d)+")")
	}
	full := "(" + anyWord(d, "full") + " " + anyNumber(d) + ")"
	return mostly(d, full, "s0("+full+")", "s2("+full+")", "h("+full+")")
}

// P11.4: the largest and the deepest terms are read, and are no letters.
func TestReadLargest(t *testing.T) {
	p := term.New()
	broad := deal7
	for range 8 {
		broad = "(" + broad + " " + broad + ")"
	}
	deep := strings.Repeat("h(", 60) + deal7 + strings.Repeat(")", 60)
	wishes := `p0>1(` + deal7 + `)`
	for range 8 {
		wishes = `s0(("resolve" (` + wishes + ` ` + wishes + `)))`
	}
	for _, text := range []string{broad, deep, `s0(("resolve" (` + broad + ` ` + broad + `)))`, wishes, strings.Repeat("s0(", 60) + deal7 + strings.Repeat(")", 60)} {
		u, why, _ := speak.Parse(p, text)
		if why != api.OK {
			t.Fatalf("error %d", why)
		}
		isNone(t, "large")(letter.Read(p, u))
	}
}
