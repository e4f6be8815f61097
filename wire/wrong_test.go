package wire_test

import (
	"strings"
	"testing"

	"escrow/api"
	"escrow/wire"
)

// wrong is how a text should be refused.
type wrong struct {
	why api.Errno
	at  int
}

const (
	wide   = "\xff\xff\xff\xff\xff\xff\xff\xff\xff\x02" // a number of more than 64 bits
	widest = "\xff\xff\xff\xff\xff\xff\xff\xff\xff\x01" // 2^64 - 1
	half   = "\xff\xff\xff\xff\xff\xff\xff\xff\x7f"     // 2^63 - 1
	round  = "\x80\x80\x80\x80\x80\x80\x80\x80\x80\x01" // 2^63
	four   = "\x80\x80\x80\x80\x10"                     // 2^32
)

// wrongTexts are texts that are no term's, of each error.
func wrongTexts() map[string]wrong {
	x64 := strings.Repeat("x", 64)
	m := map[string]wrong{}
	for why, texts := range map[api.Errno]map[string]int{
		api.ErrTag: {
			"\x00": 0, "\x0a": 0, "\x0b\x00": 0, "\x7f": 0, "\x80": 0, "\xff": 0, "\x81\x00\x00": 0, "\x00\x01\x00": 0, "n0": 0,
			"\x01\x00\x00": 2, "\x01\x00\x0a": 2, "\x01\x00\x01\x01\x0a": 4, "\x01\x01\x01\x00\x00": 4, "\x03\x02ab\xff": 4, "\x02\x80\x01\x80\x01": 3, "\x01\x00\x05\x00\x00": 4,
		},
		api.ErrShort: {
			"": 0, "\x01": 0, "\x02": 0, "\x03": 0, "\x04": 0, "\x05": 0, "\x06": 0, "\x07": 0, "\x08": 0, "\x09": 0,
			"\x01\x80": 0, "\x02\x80": 0, "\x02\xff\xff\xff\xff\xff\xff\xff\xff\xff": 0, "\x03\x01": 0, "\x03\x02a": 0, "\x03\x80": 0, "\x03\x40" + x64[1:]: 0, "\x06\x90": 0,
			"\x04\x00": 0, "\x04\x09": 0, "\x05\x80": 0, "\x07\x10": 0, "\x07\x00": 0, "\x08\x00": 0, "\x08\x10": 0, "\x08\x00\x00": 0, "\x08\x00\x10": 0, "\x09\x01\x01": 0, "\x09\x01": 0,
			"\x01\x00\x01": 2, "\x01\x00\x04\x00": 2, "\x01\x00\x04\x01": 2, "\x01\x00\x05": 2, "\x01\x00\x07\x10\x80": 2, "\x01\x00\x01\x01\x01": 4, "\x01\x00\x08\x10\x10\x80": 2,
		},
		api.ErrForm: {
			"\x01\x80\x00": 0, "\x01\x81\x00": 0, "\x02\x80\x00": 0, "\x02\xff\x80\x00": 0, "\x03\x81\x00a": 0, "\x03\xff\xff\x00": 0, "\x06\x80\x80\x00": 0, "\x07\x80\x00": 0, "\x08\x80\x00\x01\x00": 0, "\x08\x00\x81\x00\x00": 0, "\x04\x80\x00\x00": 0, "\x04\x00\x80\x00": 0, "\x04\x05\x80\x00": 0, "\x09\x10\x10\x80\x00": 0,
			"\x01\x00\x05\x80\x00": 2, "\x01\x00\x04\x00\x80\x00": 2, "\x01\x00\x07\x80\x00\x00": 2, "\x01\x00\x08\x00\x00\x80\x00": 2, "\x02\xff\xff\xff\xff\xff\xff\xff\xff\xff\x00": 0,
		},
		api.ErrWide: {
			"\x01" + wide: 0, "\x02" + wide: 0, "\x03" + wide: 0, "\x04" + wide: 0, "\x04\x00" + wide: 0, "\x05" + wide: 0, "\x06" + wide: 0, "\x07" + wide + "\x80": 0, "\x08\x10" + wide: 0, "\x09\x00\x00" + wide: 0,
			"\x02" + widest[:9] + "\x81": 0, "\x02" + widest[:9] + "\x80\x00": 0, "\x01\x00\x05" + wide: 2, "\x01\x00\x04\x05" + wide: 2, "\x01\x00\x02" + wide: 2,
		},
		api.ErrLong: {
			"\x03\x41" + x64 + "x": 0, "\x03\x41": 0, "\x03\xff\x01": 0, "\x03" + widest: 0, "\x03" + round: 0, "\x03" + half: 0, "\x03" + four: 0,
			"\x01\x00\x03\x41" + x64 + "x": 2, "\x01\x00\x03\x41": 2, "\x01\x00\x01\x01\x03\x41\x0a": 4,
		},
		api.ErrName: {
			"\x01\x10": 0, "\x01\x7f": 0, "\x01\x80\x01": 0, "\x01\x80\x02": 0, "\x01" + four: 0, "\x01" + half: 0, "\x01" + round: 0, "\x01" + widest: 0,
			"\x06\x10": 0, "\x06" + widest: 0, "\x06" + four: 0, "\x07\x10\x00": 0, "\x07\x10\x05": 0, "\x08\x10\x00\x00": 0, "\x08\x00\x10\x00": 0, "\x08\x10\x10\x00": 0, "\x08\x00\x00\x00": 0, "\x08\x05\x05\x07": 0, "\x08\x00" + widest + "\x00": 0, "\x09\x10\x00\x00": 0, "\x09\x00\x10\x00": 0, "\x09\x0f\x0f\x00": 0, "\x09" + four + "\x00\x00": 0,
			"\x01\x00\x07\x10\x00": 2, "\x01\x00\x08\x00\x00\x00": 2, "\x01\x00\x08\x00\x10\x00": 2, "\x01\x00\x09\x10\x00\x00": 2, "\x01\x00\x09\x01\x01\x00": 2, "\x01\x00\x01\x10": 2, "\x01\x00\x01\x10\x0a": 2, "\x01\x00\x07\x10" + widest: 2, "\x01\x00\x08\x01\x01" + widest: 2,
		},
		api.ErrRef: {
			"\x04\x00\x00": 0, "\x05\x00": 0, "\x07\x01\x00": 0, "\x08\x00\x01\x00": 0, "\x09\x01\x00\x00": 0, "\x04\x05\x06": 0, "\x05\x01": 0,
			"\x01\x00\x05\x01": 2, "\x01\x00\x05\x02": 2, "\x01\x00\x04\x00\x01": 2, "\x01\x00\x04\x01\x00": 2, "\x01\x00\x04\x01\x01": 2, "\x01\x00\x07\x01\x01": 2, "\x01\x00\x08\x00\x01\x01": 2, "\x01\x00\x09\x00\x01\x01": 2,
			"\x01\x00\x05" + widest: 2, "\x01\x00\x05" + round: 2, "\x01\x00\x05" + half: 2, "\x01\x00\x05" + four: 2, "\x01\x00\x04" + widest + "\x00": 2, "\x01\x00\x04\x00" + widest: 2, "\x01\x00\x04\x00" + four: 2, "\x01\x00\x05\x80\x80\x04": 2, "\x01\x00\x05\xff\xff\x03": 2, "\x01\x00\x05\x80\x02": 2,
			"\x01\x00\x05\x00\x05\x02": 4, "\x01\x00\x05\x01\x0a": 2, "\x01\x01\x01\x00\x05\x02": 4,
		},
		api.ErrTwice: {
			"\x01\x00\x01\x00": 2, "\x02\x05\x02\x05": 2, "\x03\x00\x03\x00": 2, "\x03\x01a\x03\x01a": 3, "\x06\x0f\x06\x0f": 2,
			"\x01\x00\x05\x00\x05\x00": 4, "\x01\x00\x04\x00\x00\x04\x00\x00": 5, "\x01\x00\x07\x01\x00\x07\x01\x00": 5, "\x01\x00\x08\x00\x01\x00\x08\x00\x01\x00": 6, "\x01\x00\x09\x00\x01\x00\x09\x00\x01\x00": 6,
			"\x01\x00\x01\x01\x01\x00": 4, "\x01\x00\x05\x00\x01\x00\x04\x01\x02": 4, "\x01\x00\x01\x00\x0a": 2, "\x01\x00\x01\x00\x01": 2, "\x01\x00\x01\x00\x04\x00\x01": 2,
		},
		api.ErrOrder: {
			"\x01\x00\x01\x01": 0, "\x01\x00\x06\x00": 0, "\x01\x00\x02\x00\x03\x00": 0,
			"\x01\x01\x01\x00\x04\x01\x00": 0, "\x01\x00\x01\x01\x05\x01": 0, "\x01\x00\x01\x01\x05\x00": 2, "\x01\x00\x01\x01\x01\x02\x04\x00\x02": 2, "\x01\x00\x01\x01\x01\x02\x04\x01\x02": 0,
			"\x01\x00\x05\x00\x01\x01": 0, "\x01\x00\x05\x00\x01\x01\x04\x00\x02": 2, "\x01\x00\x05\x00\x01\x01\x04\x02\x01": 0, "\x01\x00\x01\x01\x05\x00\x04\x02\x01": 2, "\x01\x00\x01\x01\x05\x00\x04\x00\x02": 2, "\x01\x00\x01\x01\x05\x01\x04\x02\x00": 0,
			"\x03\x02ab\x01\x00\x05\x00\x05\x02\x04\x03\x01": 4,
		},
	} {
		for text, at := range texts {
			m[text] = wrong{why, at}
		}
	}
	return m
}

// P7.2, P7.3: the first error, and the place where its subterm begins; and the pool is as it was.
func TestDecodeWrong(t *testing.T) {
	for text, w := range wrongTexts() {
		refuses(t, text, w.why, w.at)
		if why, at := judge(text); why != w.why || at != w.at {
			t.Errorf("%x: the test's own judge tells %d at %d instead of %d at %d", text, why, at, w.why, w.at)
		}
	}
}

// P7.2: behind what is wrong in a subterm nothing counts; behind other subterms it is wrong in its own place.
func TestDecodeWrongInside(t *testing.T) {
	for text, w := range wrongTexts() {
		switch w.why {
		case api.ErrTag, api.ErrForm, api.ErrName, api.ErrRef, api.ErrTwice:
			for _, behind := range []string{"\x01\x00", "\x0a", "\x01", "\x03\x41", "\x04\x63\x63"} {
				refuses(t, text+behind, w.why, w.at)
			}
		}
		switch {
		case w.why == api.ErrRef || w.why == api.ErrOrder: // what their numbers say is another thing there
		case len(text) > 0 && w.why != api.ErrTwice && w.at == 0:
			refuses(t, "\x02\x63"+text, w.why, 2)
			refuses(t, "\x02\x63\x02\x64\x02\x65\x02\x66\x02\x67\x02\x68\x02\x69\x02\x6a"+text, w.why, 16)
			refuses(t, "\x03\x05\x01\x00\x0a\x0b\x0c"+text, w.why, 7)
		}
	}
}

// P7.2: a right text, cut within a subterm, is too short there; cut between two it is a term's, or in no order.
func TestDecodeCut(t *testing.T) {
	for text, x := range written() {
		for cut := 1; cut < len(text); cut++ {
			want, at := judge(text[:cut])
			if want == api.OK {
				continue
			}
			if want != api.ErrShort && want != api.ErrOrder {
				t.Fatalf("%s: cut at %d: the test's own judge tells %d at %d", spell(x), cut, want, at)
			}
			refuses(t, text[:cut], want, at)
		}
	}
}

// P7.2: too large, or too deep, in each kind that is made of others, told ahead of all that is behind it.
func TestDecodeTooLarge(t *testing.T) {
	big := textOf(double(11)) // 4095 nodes, in 12 subterms
	for _, behind := range []string{"", "\x0a", "\x01\x00", "\x05\x00"} {
		refuses(t, big+"\x04\x0b\x0b"+behind, api.ErrLarge, len(big))
		refuses(t, big+"\x04\x00\x0b"+behind, api.ErrLarge, len(big))
		refuses(t, big+"\x04\x0b\x00"+behind, api.ErrLarge, len(big))
		for _, one := range []string{"\x05", "\x07\x00", "\x08\x00\x01", "\x09\x00\x01"} {
			if why, at := judge(big + one + "\x0b"); why != api.OK {
				t.Errorf("%x: error %d at %d", one, why, at)
			}
			refuses(t, big+one+"\x0b"+one+"\x0c"+behind, api.ErrLarge, len(big+one)+1)
		}
	}
	refuses(t, big+"\x04\x0b\x0c", api.ErrRef, len(big))
	refuses(t, big+"\x07\x10\x0b", api.ErrName, len(big))
	refuses(t, big+"\x04\x0a\x0a", api.ErrTwice, len(big))

	half := textOf(double(10)) // 2047 nodes, in 11 subterms
	refuses(t, half+"\x05\x0a\x05\x0b\x04\x0a\x0c", api.ErrLarge, len(half)+4)
	takes(t, half+"\x05\x0a\x04\x0a\x0b", pair(double(10), hash(double(10))))

	for _, one := range []string{"\x05", "\x07\x03", "\x08\x02\x01", "\x09\x00\x01", "\x04\x00"} {
		deep := "\x01\x00"
		for i := range 63 {
			deep += one + string([]byte{byte(i)})
		}
		if why, at := wire.Check([]byte(deep)); why != api.OK {
			t.Errorf("%x: error %d at %d", one, why, at)
		}
		refuses(t, deep+one+"\x3f", api.ErrLarge, len(deep))
		refuses(t, deep+one+"\x3f\x0a", api.ErrLarge, len(deep))
		refuses(t, deep+"\x04\x3f\x00", api.ErrLarge, len(deep))
		refuses(t, deep+"\x04\x00\x40", api.ErrRef, len(deep))
	}
}
