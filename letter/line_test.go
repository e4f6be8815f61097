package letter_test

import (
	"math/big"
	"regexp"
	"strings"
	"testing"

	"escrow/api"
	"escrow/letter"
)

// P11.7: lines put down by hand, both ways.
func TestLines(t *testing.T) {
	for _, x := range samples() {
		if s := letter.Print(x.l); s != x.line {
			t.Errorf("%s: %q instead of %q", tell(x.l), s, x.line)
		}
		parsed(t, x.line, x.l)
	}
	for text, spelled := range map[string]string{
		"a\"b": `a\"b`, `\`: `\\`, "\n": `\n`, "\r\t": `\x0d\x09`, "\x00\x01\x1f": `\x00\x01\x1f`, " ~": " ~", "\x7f\x80\xff": `\x7f\x80\xff`, "é": `\xc3\xa9`, "'`!": "'`!", `\n`: `\\n`, `\x00`: `\\x00`, "\\\"\n\\": `\\\"\n\\`, "\n0": `\n0`, "\x00f": `\x00f`, "a b": "a b",
	} {
		for line, l := range map[string]api.Letter{
			`promise 1 7 "T"`: {Kind: 1, From: 1, C: 7, Text: text}, `sign 0 7 "T"`: {Kind: 2, C: 7, Text: text}, `resolve! 1 7 "T"`: {Kind: 4, From: 1, C: 7, Text: text, Fake: true}, `instead 7 "T"`: {Kind: 6, C: 7, Text: text},
		} {
			want := strings.Replace(line, "T", spelled, 1)
			if s := letter.Print(l); s != want {
				t.Errorf("%s: %q instead of %q", tell(l), s, want)
			}
			parsed(t, want, l)
		}
	}
}

// P11.7: every byte has one spelling.
func TestBytesInLines(t *testing.T) {
	for c := range 256 {
		digits := "0123456789abcdef"
		want := `\x` + string(digits[c/16]) + string(digits[c%16])
		switch {
		case c == '"':
			want = `\"`
		case c == '\\':
			want = `\\`
		case c == 10:
			want = `\n`
		case c >= 32 && c <= 126:
			want = string([]byte{byte(c)})
		}
		l := api.Letter{Kind: api.LetterInstead, C: 3, Text: "<" + string([]byte{byte(c)}) + ">"}
		line := `instead 3 "<` + want + `>"`
		if s := letter.Print(l); s != line {
			t.Errorf("%d: %q instead of %q", c, s, line)
		}
		parsed(t, line, l)
		if hex := `instead 3 "<\x` + string(digits[c/16]) + string(digits[c%16]) + `>"`; hex != line {
			misread(t, hex, api.ErrArg, 12)
		}
	}
}

// P11.7: "", if Check refuses the letter.
func TestPrintWrong(t *testing.T) {
	for _, x := range wrongs() {
		if s := letter.Print(x.l); s != "" {
			t.Errorf("%s: %q", tell(x.l), s)
		}
	}
}

// P11.7: wrong lines, and where they are.
func TestParseWrong(t *testing.T) {
	for _, x := range []struct {
		s   string
		why api.Errno
		at  int
	}{
		// the word
		{"", api.ErrLetter, 0}, {" ", api.ErrLetter, 0}, {" abort 7", api.ErrLetter, 0}, {"abort", api.ErrLetter, 0}, {"abort7", api.ErrLetter, 0}, {"abort\t7", api.ErrLetter, 0}, {"abort\n", api.ErrLetter, 0}, {"Abort 7", api.ErrLetter, 0}, {"aborted 7", api.ErrLetter, 0}, {"abor 7", api.ErrLetter, 0}, {"abort! 7", api.ErrLetter, 0}, {"token! 7", api.ErrLetter, 0}, {"full! 7", api.ErrLetter, 0}, {"instead! 7 \"x\"", api.ErrLetter, 0}, {"sign! 0 7 \"x\"", api.ErrLetter, 0}, {"promise!! 0 7 \"x\"", api.ErrLetter, 0}, {"!promise 0 7 \"x\"", api.ErrLetter, 0}, {"! 0 7 \"x\"", api.ErrLetter, 0}, {"promise!", api.ErrLetter, 0}, {"promise!0 7 \"x\"", api.ErrLetter, 0}, {"resolve", api.ErrLetter, 0}, {"deal 7", api.ErrLetter, 0}, {"fake 0 7 \"x\"", api.ErrLetter, 0}, {"abort\x00 7", api.ErrLetter, 0}, {"\x80", api.ErrLetter, 0},
		// From
		{"sign ", api.ErrShort, 5}, {"sign 2 7 \"x\"", api.ErrArg, 5}, {"sign 9", api.ErrArg, 5}, {"sign -1 7 \"x\"", api.ErrArg, 5}, {"sign \"x\"", api.ErrArg, 5}, {"sign  0 7 \"x\"", api.ErrArg, 5}, {"sign 0", api.ErrShort, 6}, {"sign 01 7 \"x\"", api.ErrArg, 6}, {"sign 10 7 \"x\"", api.ErrArg, 6}, {"sign 00 7 \"x\"", api.ErrArg, 6}, {"sign 0x", api.ErrArg, 6}, {"sign 0\t7", api.ErrArg, 6}, {"promise !0 7 \"x\"", api.ErrArg, 8}, {"promise! ! 7", api.ErrArg, 9}, {"promise ! 0 7 \"x\"", api.ErrArg, 8}, {"resolve! 2", api.ErrArg, 9}, {"resolve 1 ", api.ErrShort, 10}, {"resolve! 1", api.ErrShort, 10}, {"sign 7 \"x\"", api.ErrArg, 5},
		// C
		{"abort ", api.ErrShort, 6}, {"abort 07", api.ErrArg, 6}, {"abort 00", api.ErrArg, 6}, {"abort 0x", api.ErrArg, 7}, {"abort  7", api.ErrArg, 6}, {"abort -7", api.ErrArg, 6}, {"abort +7", api.ErrArg, 6}, {"abort x", api.ErrArg, 6}, {"abort \"7\"", api.ErrArg, 6}, {"abort \x80", api.ErrArg, 6}, {"abort 7x", api.ErrArg, 7}, {"abort 7\n", api.ErrArg, 7}, {"abort 7.0", api.ErrArg, 7}, {"abort 1_0", api.ErrArg, 7}, {"abort 7\"", api.ErrArg, 7}, {"abort 18446744073709551616", api.ErrArg, 6}, {"abort 18446744073709551616x", api.ErrArg, 6}, {"abort 18446744073709551615x", api.ErrArg, 26}, {"abort 18446744073709551620", api.ErrArg, 6}, {"abort 99999999999999999999", api.ErrArg, 6}, {"abort 100000000000000000000000000000000000000000", api.ErrArg, 6}, {"abort 018446744073709551615 x", api.ErrArg, 6}, {"abort 07x", api.ErrArg, 6}, {"full 0x10", api.ErrArg, 6}, {"token ٧", api.ErrArg, 6},
		{"instead ", api.ErrShort, 8}, {"instead x", api.ErrArg, 8}, {"instead \"x\"", api.ErrArg, 8}, {"sign 0 ", api.ErrShort, 7}, {"sign 0 x", api.ErrArg, 7}, {"sign 0 07", api.ErrArg, 7}, {"sign 0 07 ", api.ErrArg, 7}, {"sign 0 18446744073709551616 \"x\"", api.ErrArg, 7}, {"sign 0 7\"x\"", api.ErrArg, 8}, {"sign 0 7x", api.ErrArg, 8}, {"sign 0  7", api.ErrArg, 7}, {"sign 0 \"x\"", api.ErrArg, 7},
		// Text
		{"sign 0 7", api.ErrShort, 8}, {"sign 0 7 ", api.ErrShort, 9}, {"instead 7", api.ErrShort, 9}, {"instead 7 ", api.ErrShort, 10}, {"instead 7  \"x\"", api.ErrArg, 10}, {"instead 7 x", api.ErrArg, 10}, {"instead 7 'x'", api.ErrArg, 10}, {"instead 7 \\\"", api.ErrArg, 10}, {"instead 7 7 \"x\"", api.ErrArg, 10}, {"instead 7 \"", api.ErrShort, 11}, {"instead 7 \"x", api.ErrShort, 12}, {"instead 7 \"x\\\"", api.ErrShort, 14}, {"instead 7 \"x ", api.ErrShort, 13},
		{"instead 7 \"a\nb\"", api.ErrArg, 12}, {"instead 7 \"a\x00\"", api.ErrArg, 12}, {"instead 7 \"a\x1fb", api.ErrArg, 12}, {"instead 7 \"\x7f\"", api.ErrArg, 11}, {"instead 7 \"\x80\"", api.ErrArg, 11}, {"instead 7 \"aé\"", api.ErrArg, 12}, {"instead 7 \"\xff", api.ErrArg, 11}, {"instead 7 \"\t", api.ErrArg, 11},
		{`instead 7 "a\tb"`, api.ErrArg, 12}, {`instead 7 "\r"`, api.ErrArg, 11}, {`instead 7 "\0"`, api.ErrArg, 11}, {`instead 7 "\N"`, api.ErrArg, 11}, {`instead 7 "\X00"`, api.ErrArg, 11}, {`instead 7 "\ "`, api.ErrArg, 11}, {`instead 7 "\'"`, api.ErrArg, 11}, {`instead 7 "\u0000"`, api.ErrArg, 11}, {"instead 7 \"\\\n\"", api.ErrArg, 11}, {"instead 7 \"\\\x80", api.ErrArg, 11},
		{`instead 7 "\x"`, api.ErrArg, 11}, {`instead 7 "\x""`, api.ErrArg, 11}, {`instead 7 "\x0"`, api.ErrArg, 11}, {`instead 7 "\x0""`, api.ErrArg, 11}, {`instead 7 "\xg0"`, api.ErrArg, 11}, {`instead 7 "\x0g"`, api.ErrArg, 11}, {`instead 7 "\x+0"`, api.ErrArg, 11}, {`instead 7 "\x0F"`, api.ErrArg, 11}, {`instead 7 "\xC3"`, api.ErrArg, 11}, {`instead 7 "\xAf"`, api.ErrArg, 11}, {`instead 7 "\x41"`, api.ErrArg, 11}, {`instead 7 "\x0a"`, api.ErrArg, 11}, {`instead 7 "\x0A"`, api.ErrArg, 11}, {`instead 7 "\x22"`, api.ErrArg, 11}, {`instead 7 "\x5c"`, api.ErrArg, 11}, {`instead 7 "\x20"`, api.ErrArg, 11}, {`instead 7 "\x7e"`, api.ErrArg, 11}, {`instead 7 "ab\x__"`, api.ErrArg, 13},
		{`instead 7 "\`, api.ErrShort, 12}, {`instead 7 "\x`, api.ErrShort, 13}, {`instead 7 "\x0`, api.ErrShort, 14}, {`instead 7 "\x4`, api.ErrShort, 14}, {`instead 7 "\x00`, api.ErrShort, 15}, {`instead 7 "\n`, api.ErrShort, 13}, {`instead 7 "\"`, api.ErrShort, 13}, {`instead 7 "\\`, api.ErrShort, 13}, {`instead 7 "\xg`, api.ErrArg, 11}, {`instead 7 "\xA`, api.ErrArg, 11}, {`instead 7 "\x41`, api.ErrArg, 11}, {`instead 7 "\q`, api.ErrArg, 11}, {`instead 7 "x`, api.ErrShort, 12}, {`instead 7 "x0`, api.ErrShort, 13},
		// what stands behind
		{"abort 7 ", api.ErrTail, 7}, {"abort 7 x", api.ErrTail, 7}, {"abort 7  ", api.ErrTail, 7}, {"abort 0 7", api.ErrTail, 7}, {"token 7 \"x\"", api.ErrTail, 7}, {"full 18446744073709551615 ", api.ErrTail, 25}, {`sign 0 7 "x" `, api.ErrTail, 12}, {`sign 0 7 "x""`, api.ErrTail, 12}, {`sign 0 7 "x"y"`, api.ErrTail, 12}, {`sign 0 7 "" "x"`, api.ErrTail, 11}, {"sign 0 7 \"x\"\n", api.ErrTail, 12}, {"instead 7 \"x\"\x00", api.ErrTail, 13},
	} {
		misread(t, x.s, x.why, x.at)
	}
}

// P11.7: the longest text, and one that is too long; what is wrong in it, or its missing end, comes first, what stands behind it last.
func TestParseLong(t *testing.T) {
	for _, one := range []string{"a", `\"`, `\\`, `\n`, `\xff`, " "} {
		right := `sign 1 7 "` + strings.Repeat(one, api.MaxData) + `"`
		if l, why, at := letter.Parse(right); why != api.OK || at != 0 || len(l.Text) != api.MaxData {
			t.Errorf("%q: error %d at %d", right, why, at)
		}
		for _, more := range []int{1, 2, 192, 5000} {
			long := `sign 1 7 "` + strings.Repeat(one, api.MaxData+more)
			misread(t, long+`"`, api.ErrLong, 9)
			misread(t, long+`"x`, api.ErrLong, 9)
			misread(t, long+`" `, api.ErrLong, 9)
			misread(t, long, api.ErrShort, len(long))
			misread(t, long+`\`, api.ErrShort, len(long)+1)
			misread(t, long+"\n\"", api.ErrArg, len(long))
			misread(t, long+`\q"`, api.ErrArg, len(long))
		}
	}
	misread(t, `instead 18446744073709551615 "`+strings.Repeat("a", 65)+`"`, api.ErrLong, 29)
}

// pieces are what stands in a line behind the word, as one reads it piece by piece: what is right, and what is not yet wrong where the line ends.
var (
	heads    = regexp.MustCompile(`^(promise!?|sign|abort|resolve!?|token|instead|full) `)
	froms    = regexp.MustCompile(`^[01]`)
	blanks   = regexp.MustCompile(`^ `)
	runs     = regexp.MustCompile(`^[0-9]+`)
	quotes   = regexp.MustCompile(`^"`)
	plains   = regexp.MustCompile(`^([ !#-\[\]-~]|\\["\\n]|\\x(0[0-9b-f]|1[0-9a-f]|7f|[89a-f][0-9a-f]))`)
	halfways = regexp.MustCompile(`^(\\(x[0-9a-f]?)?)?$`)
	ends     = regexp.MustCompile(`^$`)
)

// judgeLine is the error and place that Parse should tell of a line.
func judgeLine(s string) (api.Errno, int) {
	word := heads.FindString(s)
	if word == "" {
		return api.ErrLetter, 0
	}
	rest := s[len(word):]
	take := func(right *regexp.Regexp) bool {
		piece := right.FindString(rest)
		rest = rest[len(piece):]
		return piece != ""
	}
	wrong := func(yet *regexp.Regexp) (api.Errno, int) {
		if yet.MatchString(rest) {
			return api.ErrShort, len(s)
		}
		return api.ErrArg, len(s) - len(rest)
	}
	if strings.Contains("promise promise! sign resolve resolve! ", word) && (!take(froms) || !take(blanks)) {
		return wrong(ends)
	}
	digits := runs.FindString(rest)
	n, _ := new(big.Int).SetString("0"+digits, 10)
	if digits == "" || n.BitLen() > 64 || digits != n.String() {
		return wrong(ends)
	}
	rest = rest[len(digits):]
	if rest != "" && rest[0] != ' ' {
		return wrong(ends)
	}
	if !strings.Contains("abort token full ", word) {
		if !take(blanks) || !take(quotes) {
			return wrong(ends)
		}
		first, long := len(s)-len(rest)-1, 0
		for take(plains) {
			long++
		}
		if !take(quotes) {
			return wrong(halfways)
		}
		if long > 64 {
			return api.ErrLong, first
		}
	}
	if rest != "" {
		return api.ErrTail, len(s) - len(rest)
	}
	return api.OK, 0
}

// asJudged fails if Parse does not tell of a line what the judge does, or if it takes a line that Print does not write. It is whether the line was taken.
func asJudged(t *testing.T, s string) bool {
	t.Helper()
	why, at := judgeLine(s)
	if why != api.OK {
		misread(t, s, why, at)
		return false
	}
	l, e, place := letter.Parse(s)
	if e != api.OK || place != 0 || letter.Print(l) != s {
		t.Errorf("%q: error %d at %d, Print %q", s, e, place, letter.Print(l))
	}
	return true
}

// lines are right ones of all kinds, with all spellings.
func lines() []string {
	l := []string{`promise! 1 10 "a\"\\\n\x00\xff~"`, `instead 18446744073709551615 "\\x00"`, `resolve 0 100 "\x7f \x1f"`}
	for _, x := range samples() {
		l = append(l, x.line)
	}
	return l
}

// P11.7, P11.9: of all beginnings of lines, and of lines with a byte changed, put in or left out, what the judge tells; and what is taken Print writes.
func TestParseNear(t *testing.T) {
	taken := 0
	for _, s := range lines() {
		for i := range len(s) + 1 {
			asJudged(t, s[:i])
			if i < len(s) {
				asJudged(t, s[:i]+s[i+1:])
			}
			for c := range 256 {
				b := string([]byte{byte(c)})
				near := []string{s[:i] + b, s[:i] + b + s[i:]}
				if i < len(s) {
					near = append(near, s[:i]+b+s[i+1:])
				}
				for _, x := range near {
					if asJudged(t, x) {
						taken++
					}
				}
			}
		}
	}
	if taken < 5000 {
		t.Errorf("only %d were taken", taken)
	}
}

// P11.7, P11.9: of lines put together by chance out of what stands in lines.
func TestParseAny(t *testing.T) {
	d := dice(7)
	pieces := []string{"promise ", "promise! ", "sign ", "abort ", "resolve ", "resolve! ", "token ", "instead ", "full ", "0 ", "1 ", "7 ", "0", "1", "18446744073709551615", "18446744073709551616", " ", `"`, `"`, `"x"`, `\"`, `\\`, `\n`, `\x00`, `\xff`, `\x41`, `\x`, `\`, "a", "!", "\n", "é", strings.Repeat("b", 64)}
	taken := 0
	for range 200000 {
		s := pieces[d.upTo(9)]
		for range d.upTo(7) {
			s += pieces[9+d.upTo(len(pieces)-9)]
		}
		if asJudged(t, s) {
			taken++
		}
	}
	if taken < 1000 {
		t.Errorf("only %d were taken", taken)
	}
}

// P11.7: all short texts of few bytes behind the beginning of a line.
func TestParseShort(t *testing.T) {
	few := []byte{'"', '\\', 'n', 'x', '0', '7', 'a', 'A', ' ', 10}
	texts := []string{""}
	for range 5 {
		var longer []string
		for _, s := range texts {
			asJudged(t, `instead 7 "`+s)
			asJudged(t, `sign 1 `+s)
			for _, c := range few {
				longer = append(longer, s+string(c))
			}
		}
		texts = longer
	}
}
