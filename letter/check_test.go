package letter_test

import (
	"testing"

	"escrow/api"
	"escrow/letter"
)

// P11.2: what is a letter.
func TestCheck(t *testing.T) {
	for _, x := range samples() {
		if why := letter.Check(x.l); why != api.OK {
			t.Errorf("%s: error %d", tell(x.l), why)
		}
	}
	for _, l := range letters(numbers(), texts()) {
		if why := letter.Check(l); why != api.OK {
			t.Errorf("%s: error %d", tell(l), why)
		}
	}
}

// P11.2: what is none; ErrLetter is told ahead of ErrLong.
func TestCheckWrong(t *testing.T) {
	for _, x := range wrongs() {
		if why := letter.Check(x.l); why != x.why {
			t.Errorf("%s: error %d instead of %d", tell(x.l), why, x.why)
		}
	}
}

// P11.2: all fields of all kinds, held against which kind has which.
func TestCheckFields(t *testing.T) {
	fields := map[int]string{1: "from text fake", 2: "from text", 3: "", 4: "from text fake", 5: "", 6: "text", 7: ""}
	has := func(kind int, field string) bool {
		for i := 0; i+len(field) <= len(fields[kind]); i++ {
			if fields[kind][i:i+len(field)] == field {
				return true
			}
		}
		return false
	}
	for kind := 1; kind <= 7; kind++ {
		for from := -2; from < 18; from++ {
			for _, s := range append(texts(), string(make([]byte, 65))) {
				for _, fake := range []bool{false, true} {
					l := api.Letter{Kind: kind, From: from, C: 7, Text: s, Fake: fake}
					want := api.OK
					switch {
					case from != 0 && (from != 1 || !has(kind, "from")), s != "" && !has(kind, "text"), fake && !has(kind, "fake"):
						want = api.ErrLetter
					case len(s) > 64:
						want = api.ErrLong
					}
					if why := letter.Check(l); why != want {
						t.Errorf("%s: error %d instead of %d", tell(l), why, want)
					}
				}
			}
		}
	}
}

// P11.5: to whom each goes, put down by hand.
func TestTo(t *testing.T) {
	for _, x := range samples() {
		if to := letter.To(x.l); to != x.to {
			t.Errorf("%s: %d instead of %d", tell(x.l), to, x.to)
		}
	}
	for _, l := range letters(numbers(), texts()) {
		want := map[int]int{1: 1 - l.From, 2: 1 - l.From, 3: 2, 4: 2, 5: -1, 6: -1, 7: -1}[l.Kind]
		if to := letter.To(l); to != want {
			t.Errorf("%s: %d instead of %d", tell(l), to, want)
		}
	}
}

// P11.5: what is no letter goes to nobody.
func TestToWrong(t *testing.T) {
	for _, x := range wrongs() {
		if to := letter.To(x.l); to != -1 {
			t.Errorf("%s: %d", tell(x.l), to)
		}
	}
}
