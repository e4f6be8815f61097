package letter

import (
	"strconv"
	"strings"

	"escrow/api"
)

// Print: P11.7.
func Print(l api.Letter) string {
	if Check(l) != api.OK {
		return ""
	}
	k := kinds[l.Kind]
	fields := []string{head(l.Kind, l.Fake)}
	if k.from {
		fields = append(fields, strconv.Itoa(l.From))
	}
	fields = append(fields, strconv.FormatUint(l.C, 10))
	if k.text {
		fields = append(fields, quoted(l.Text))
	}
	return strings.Join(fields, " ")
}

// head is the word with which a letter's line begins.
func head(kind int, fake bool) string {
	if fake {
		return kinds[kind].word + "!"
	}
	return kinds[kind].word
}

func quoted(text string) string {
	s := `"`
	for _, c := range []byte(text) {
		s += spelled(c)
	}
	return s + `"`
}

const hexDigits = "0123456789abcdef"

// spelled is how a byte of a text stands in a line.
func spelled(c byte) string {
	switch {
	case c == '"' || c == '\\':
		return `\` + string(rune(c))
	case c == '\n':
		return `\n`
	case c < ' ' || c > '~':
		return `\x` + hexDigits[c>>4:c>>4+1] + hexDigits[c&15:c&15+1]
	}
	return string(rune(c))
}
