package speak_test

import (
	"strings"
	"testing"

	"escrow/api"
)

// wrong is how a text should be refused.
type wrong struct {
	why api.Errno
	at  int
}

// wrongTexts are texts that are no term's, of each error.
func wrongTexts() map[string]wrong {
	long := strings.Repeat("a", 65)
	escaped := strings.Repeat(`\x41`, 65)
	m := map[string]wrong{}
	for why, texts := range map[api.Errno]map[string]int{
		api.ErrWord: {
			"x": 0, " x": 1, "\t": 0, "\nn1": 0, "N1": 0, "1": 0, ")": 0, `\`: 0, ">": 0, "-1": 0, "'a'": 0, "\x00": 0, "\xff": 0, "é": 0, "\u00a0n1": 0, "H(n1)": 0, "[n1 n2]": 0,
			"nx": 1, "n ": 1, "n 1": 1, "n-1": 1, "n+1": 1, "n(1)": 1, "nn1": 1, "#x": 1, "# 1": 1, "#-1": 1, "#+1": 1, "##": 1, "k 1": 1, "kx": 1, "n\xb2": 1, "n/": 1, "n:": 1,
			"hx": 1, "h (n1)": 1, "h n1": 1, "hn1": 1, "h)": 1, "h1(n1)": 1, "h[n1]": 1,
			"s(n1)": 1, "s (n1)": 1, "s 0(n1)": 1, "s0 (n1)": 2, "s0n1": 2, "s0)": 2, "s0>1(n1)": 2, "s10x": 3,
			"p(n1)": 1, "p>1(n1)": 1, "p0(n1)": 2, "p0 >1(n1)": 2, "p0> 1(n1)": 3, "p0>1 (n1)": 4, "p0>(n1)": 3, "p0<1(n1)": 2, "p0>>1(n1)": 3, "p0>1>2(n1)": 4, "p0>1n0": 4, "p0,1(n1)": 2, "p 0>1(n1)": 1,
			"f(n1)": 1, "f0(n1)": 2, "f0 >1(n1)": 2, "f0> 1(n1)": 3, "f0>1 (n1)": 4, "f0>-1(n1)": 3, "f0>1)": 4,
			"h()": 2, "h( )": 3, "h(n1 n2)": 5, "h(n1n2)": 4, "h(n1,n2)": 4, "h(n1\n)": 4, "h(n1]": 4, "h(n1>": 4, "h(1)": 2, "s0()": 3, "p0>1()": 5, "p0>1(n1 n2)": 8,
			"()": 1, "( )": 2, "(n1)": 3, "(n1 )": 4, "(n1,n2)": 3, "(n1\tn2)": 3, "(n1 n2 n3)": 7, "(n1n2n3)": 5, "(n1 2)": 4, "(n1 n2,": 6, "(n1 n2]": 6, "(n1 n2\x00)": 6, "((n1 n2))": 8, "(,n1)": 1,
			`"\q"`: 2, `"\ "`: 2, `"\X41"`: 2, `"\n"`: 2, `"\0"`: 2, `"\x"`: 3, `"\x4"`: 4, `"\xg0"`: 3, `"\x4G"`: 4, `"\x 41"`: 3, `"\x\x"`: 3, `"\x4` + "\xff": 4,
			"\"\n\"": 1, "\"ab\x1f\"": 3, "\"\x7f\"": 1, "\"é\"": 1, `"` + long + "\n\"": 66, `"` + long + `\q"`: 67, `"` + long + `\xq"`: 68,
			"h(#1 x": 5,
		},
		api.ErrNumber: {
			"#00": 1, "#01": 1, "#000": 1, "#0123456789": 1, "#01x": 1, "#01 n1": 1, " #01": 2, "h(#00)": 3, "(n1 #01": 5,
			"#18446744073709551616": 1, "#18446744073709551620": 1, "#20000000000000000000": 1, "#99999999999999999999": 1, "#100000000000000000000": 1, "#018446744073709551616": 1, "#" + strings.Repeat("9", 1000): 1, "#1" + strings.Repeat("0", 1000): 1, "#" + strings.Repeat("0", 1000): 1,
			"#36893488147419103232": 1, "#340282366920938463463374607431768211456": 1,
			"n00": 1, "n01": 1, "n016": 1, "n18446744073709551616": 1, "k00": 1, "k07": 1, "s00(n1)": 1, "s01": 1, "s01x": 1, "p00>1(n1)": 1, "p01>1(n1)": 1, "p0>01(n1)": 3, "p0>00(n1)": 3, "p10>010(n1)": 4, "p0>18446744073709551616(n1)": 3, "f00>1(n1)": 1, "f0>01": 3, "f1>01(n1)": 3,
		},
		api.ErrName: {
			"n16": 1, "n99": 1, "n160": 1, "n16x": 1, "n256": 1, "n65536": 1, "n4294967296": 1, "n4294967295": 1, "n9223372036854775808": 1, "n18446744073709551615": 1, " n16": 2, "h(n16)": 3, "(n1 n16": 5, "(n16 x": 2,
			"k16": 1, "k18446744073709551600": 1, "s16(n1)": 1, "s16": 1, "s16x": 1, "p16>0(n1)": 1, "p16": 1, "p16x": 1, "p0>16(n1)": 3, "p0>16": 3, "p16>16(n1)": 1, "p0>18446744073709551615(n1)": 3,
			"p1>1(n0)": 3, "p1>1": 3, "p1>1x": 3, "p0>0(n16)": 3, "p15>15(n0)": 4, "f16>0(n1)": 1, "f0>16(n1)": 3, "f0>0(n1)": 3, "f15>15": 4, "h(f2>2(n1))": 5,
		},
		api.ErrLong: {
			`"` + long + `"`: 0, `"` + escaped + `"`: 0, `"` + long + `"x`: 0, `(n1 "` + long + `"`: 4, `  "` + long + `" `: 2, `h("` + escaped + `")`: 2, `"` + long + `\"\\"`: 0, `"` + strings.Repeat("a", 10000) + `"`: 0, `("` + long + `" n16)`: 1,
		},
		api.ErrTail: {
			"n1 n2": 3, "n1n2": 2, "n1x": 2, "n1)": 2, "n1 )": 3, "n1(": 2, "n1\n": 2, "n1\t": 2, "n1 \x00": 3, "n1\xff": 2, "n1  #01": 4, "n1 n16": 3, "#1 2": 3, "#1.0": 2, "#1_0": 2, "#0x10": 2, "#1e3": 2, "#1-": 2, `"a""b"`: 3, `"a"b`: 3, `""""`: 2, `"a\"""`: 5, "h(n1))": 5, "h(n1)n1": 5, "(n1 n2)n3": 7, "(n1 n2) )": 8, "k1>2(n1)": 2, "n1>2": 2, "s0(n1)(n2)": 6, "p0>1(n1)\x7f": 8,
		},
		api.ErrShort: {
			"": 0, " ": 1, "    ": 4, "n": 1, "#": 1, "k": 1, "  n": 3, `"`: 1, `"a`: 2, `"a `: 3, `"\`: 2, `"\x`: 3, `"\x4`: 4, `"\x41`: 5, `"\"`: 3, `"\\`: 3, `"` + long: 66, `"` + escaped: 261,
			"(": 1, "( ": 2, "(n": 2, "(n1": 3, "(n1 ": 4, "(n1n2": 5, "(n1 n2": 6, "(n1 n2  ": 8, "((n1 n2)": 8, "(n1 (n1 n2)": 11, "((((": 4, "(h(n1) s0(n1": 12,
			"h": 1, "h(": 2, "h( ": 3, "h(n1": 4, "h(n1 ": 5, "s": 1, "s0": 2, "s15": 3, "s0(": 3, "s0(n1": 5, "p": 1, "p0": 2, "p0>": 3, "p0>1": 4, "p0>1(": 5, "p0>1(n0": 7, "f": 1, "f0": 2, "f0>": 3, "f0>12": 5, "f0>12(": 6, "f0>12(n0  ": 10,
		},
	} {
		for text, at := range texts {
			m[text] = wrong{why, at}
		}
	}
	return m
}

// P6.2: the first error and its place, and the zero tree.
func TestReadWrong(t *testing.T) {
	for text, w := range wrongTexts() {
		refuses(t, text, w.why, w.at)
	}
}

// P6.2: what is wrong in a term is so inside another one, and whatever stands behind it changes nothing.
func TestReadWrongInside(t *testing.T) {
	for text, w := range wrongTexts() {
		switch w.why {
		case api.ErrShort:
			refuses(t, "h( "+text, w.why, w.at+3)
			refuses(t, `("" `+text, w.why, w.at+4)
		case api.ErrWord, api.ErrNumber, api.ErrName, api.ErrLong:
			for _, behind := range []string{"", " ", ")", " n16)", "\n"} {
				refuses(t, "h( "+text+behind, w.why, w.at+3)
				refuses(t, `p0>1((""`+text+behind, w.why, w.at+8)
			}
		}
	}
}

// P6.2: a term cut anywhere ends too early, and at any byte that may not stand there it is refused at that.
func TestReadCut(t *testing.T) {
	for text, x := range written() {
		for at := range len(text) {
			if len(x.Kids) > 0 || x.Kind == api.KindData || at < 2 {
				refuses(t, text[:at], api.ErrShort, at)
				refuses(t, text[:at]+"\x00"+text[at:], api.ErrWord, at)
				refuses(t, text[:at]+"\x80", api.ErrWord, at)
			}
		}
		refuses(t, text+"\x00", api.ErrTail, len(text))
	}
}

// P6.2: 64 bytes of a datum are not too many, in whichever way they are written.
func TestReadLong(t *testing.T) {
	for one, c := range map[string]string{"a": "a", " ": " ", `\"`: `"`, `\\`: `\`, `\x41`: "A", `\xFF`: "\xff"} {
		reads(t, `"`+strings.Repeat(one, 64)+`"`, data(strings.Repeat(c, 64)))
		refuses(t, `"`+strings.Repeat(one, 65)+`"`, api.ErrLong, 0)
		refuses(t, `"`+strings.Repeat(one, 65), api.ErrShort, 1+65*len(one))
		refuses(t, `"`+strings.Repeat(one, 65)+"\n", api.ErrWord, 1+65*len(one))
	}
}

// P6.2: a term inside 64 others is too deep, whichever these are; what is no term's first byte is told ahead of that.
func TestReadDeep(t *testing.T) {
	for _, open := range []string{"h(", "s3(", "p0>15(", "f2>1(", "(", "(n0 ", "(n0", " h( ", `("(("`} {
		others := strings.Repeat(open, api.MaxDepth-1)
		refuses(t, others+"n0", api.ErrShort, len(others)+2)
		for _, last := range []string{"h(", "s3(", "p0>15(", "f2>1(", "("} {
			at := len(others + last)
			refuses(t, others+last, api.ErrShort, at)
			refuses(t, others+last+"n0", api.ErrLarge, at)
			refuses(t, others+last+"#01", api.ErrLarge, at)
			refuses(t, others+last+"  (", api.ErrLarge, at+2)
			refuses(t, others+last+"x", api.ErrWord, at)
		}
	}
	shut := strings.Repeat(")", 63)
	reads(t, strings.Repeat("h(", 63)+"n0"+shut, tower(63, name(0)))
	refuses(t, "h("+strings.Repeat("h(", 63)+"n0"+shut+")", api.ErrLarge, 128)
	deep := tower(62, name(0))
	reads(t, textOf(pair(deep, pair(name(1), tower(61, key(0))))), pair(deep, pair(name(1), tower(61, key(0)))))
}

// P6.2: the node number 4096 is one too many, counted as they begin.
func TestReadManyNodes(t *testing.T) {
	for _, x := range []api.Tree{broad(4095, name(5)), pair(hash(broad(2047, name(5))), broad(2047, num(1))), hash(broad(4095, name(5)))} {
		reads(t, textOf(x), x)
	}
	for _, nodes := range []int{4097, 4099, 5001} {
		for _, open := range []string{"", "  "} {
			text := open + textOf(broad(nodes, name(5)))
			at, met := 0, 0
			for i := range len(text) {
				if text[i] == '(' || text[i] == 'n' {
					if met == 4096 {
						at = i
					}
					met++
				}
			}
			refuses(t, text, api.ErrLarge, at)
			refuses(t, text[:at], api.ErrShort, at)
			refuses(t, text[:at]+"x", api.ErrWord, at)
			refuses(t, text[:at]+"  n99", api.ErrLarge, at+2)
			refuses(t, text[:at]+"(", api.ErrLarge, at)
		}
	}
	text := textOf(broad(4095, data(`((n0h(`))) // what stands in a datum is no node
	refuses(t, "("+text+"n0)", api.ErrLarge, 1+len(text))
	reads(t, "h("+text+")", hash(broad(4095, data(`((n0h(`))))
}

// P6.2: a text of MaxSpeak bytes is read, a longer one not, whatever it is.
func TestReadMaxSpeak(t *testing.T) {
	const most = api.MaxSpeak
	reads(t, blanks(most-2)+"n1", name(1))
	reads(t, "n1"+blanks(most-2), name(1))
	reads(t, "(n1"+blanks(most-6)+"n2)", pair(name(1), name(2)))
	for _, text := range []string{blanks(most-1) + "n1", "n1" + blanks(most-1), blanks(most + 1), strings.Repeat("x", most+1), strings.Repeat("(", most+1), `"` + strings.Repeat("a", most), strings.Repeat("x", 2*most)} {
		refuses(t, text, api.ErrLong, 0)
	}
	refuses(t, blanks(most), api.ErrShort, most)
	refuses(t, strings.Repeat("x", most), api.ErrWord, 0)
	refuses(t, blanks(most-1)+"x", api.ErrWord, most-1)
	refuses(t, strings.Repeat("(", most), api.ErrLarge, 64)
	refuses(t, "n1"+strings.Repeat("n1", most/2-1), api.ErrTail, 2)
	refuses(t, "#"+strings.Repeat("1", most-1), api.ErrNumber, 1)
	refuses(t, `"`+strings.Repeat("a", most-1), api.ErrShort, most)
	refuses(t, `"`+strings.Repeat("a", most-2)+`"`, api.ErrLong, 0)
}
