package lex

import (
	"fmt"
	"math"
	"regexp"
	"slices"
	"strconv"
	"strings"
	"testing"

	"rampart/api"
)

// answer is what All answers.
type answer struct {
	l    []Token
	line int
	e    api.Errno
}

// read is what All answers, in one.
func read(s string) answer {
	l, line, e := All(s)
	return answer{l, line, e}
}

// is tells whether two answers are one; nil and an empty list are.
func (a answer) is(b answer) bool {
	return slices.Equal(a.l, b.l) && a.line == b.line && a.e == b.e
}

// String quotes the texts, so that a failure can be read.
func (a answer) String() string {
	l := a.l
	if len(l) > 50 {
		l = l[:50]
	}
	return fmt.Sprintf("%d tokens %#v, line %d, error %d", len(a.l), l, a.line, a.e)
}

// reads tells by the test whether a text is these tokens.
func reads(t *testing.T, s string, l ...Token) {
	t.Helper()
	if got, want := read(s), (answer{l: l}); !got.is(want) {
		t.Errorf("%+.60q: %v, want %v", s, got, want)
	}
}

// refuses tells by the test whether a text is refused for what stands on a line: the same, whatever stands ahead of it, and whatever stands on later lines.
func refuses(t *testing.T, s string, line int) {
	t.Helper()
	for _, c := range []struct {
		ahead, behind string
		lines         int
	}{
		{"", "", 0}, {"a 1 $b \"c\" ; ", "", 0}, {"\n\r\n#%\n", "", 3}, {"a\n;", "", 1},
		{"", "\n", 0}, {"", "\n%\n\"", 0}, {"", "\nb 2", 0}, {"", "\n\"b\" \"|00|\"", 0}, {"x\n\n", "\n<", 2},
	} {
		x := c.ahead + s + c.behind
		if got, want := read(x), (answer{line: line + c.lines, e: api.ErrText}); !got.is(want) {
			t.Errorf("%+.60q: %v, want %v", x, got, want)
		}
	}
}

// Tokens on the first line.
func word(s string) Token  { return Token{Kind: Word, S: s, Line: 1} }
func number(n int) Token   { return Token{Kind: Number, N: n, Line: 1} }
func bytes(s string) Token { return Token{Kind: Bytes, S: s, Line: 1} }
func sign(s string) Token  { return Token{Kind: Sign, S: s, Line: 1} }
func name(s string) Token  { return Token{Kind: Var, S: s, Line: 1} }

// on is a token on another line.
func on(line int, t Token) Token {
	t.Line = line
	return t
}

// Kinds of bytes, as the chapter tells them.
const (
	great    = "ABCDEFGHIJKLMNOPQRSTUVWXYZ"
	small    = "abcdefghijklmnopqrstuvwxyz"
	digits   = "0123456789"
	sixteen  = "0123456789abcdefABCDEF"
	oneSigns = "();:,/[]!-.="
	blanks   = " \t\r\n"
)

// oneByte is the text of one byte.
func oneByte(v int) string {
	return string([]byte{byte(v)})
}

// isOf tells whether a byte is one of these.
func isOf(v int, these string) bool {
	return strings.IndexByte(these, byte(v)) >= 0
}

// foreign is runes beyond ASCII that another reading might take for a letter, a digit, a blank, a line's end, a sign, or for what is no rune.
func foreign() []string {
	return []string{
		"\u00e9", "\u00c9", "\u0141", "\u0161", "\u017f", "\u0130", "\u0131", "\u212a", "\uff21", "\uff41", "\u03b1", "\u4e16", // letters; low bytes, or letters of another case, that are ASCII's
		"\u0661", "\uff11", "\u00b2", "\u2168", // digits
		"\u00a0", "\u0085", "\u2028", "\u2003", "\ufeff", "\u0120", // blanks
		"\u010a", "\u010d", "\u0109", // low bytes of the blanks
		"\u0123", "\u0122", "\u017c", "\u015c", "\u0124", "\u0128", "\u013b", "\uff08", "\u2192", // low bytes of the signs
		"\ufffd", "\U0001f600", "\U0010ffff", // three and four bytes
		"\x80", "\xa0", "\xc3", "\xff", "\xc3\x28", "\xe2\x82", "\xf0\x9f\x98", "\xed\xa0\x80", "\xc0\xaf", "\xf4\x90\x80\x80", // no runes
	}
}

// P8.1, the example.
func TestExample(t *testing.T) {
	reads(t, `"a|0d 0A|b"`, bytes("a\r\nb"))
}

// P8.1: the numbers of the kinds.
func TestKinds(t *testing.T) {
	if Word != 1 || Number != 2 || Bytes != 3 || Sign != 4 || Var != 5 {
		t.Error(Word, Number, Bytes, Sign, Var)
	}
}

// P8.1: a text of rules, all kinds of tokens in it.
func TestRules(t *testing.T) {
	reads(t, "var HOME = [10.0.0.0/8,!$x] # nets\r\n\nalert TCP $Home any <> !any 80-90->\n\t(content:\"a|00|\"; distance:-5;)",
		word("var"), word("home"), sign("="), sign("["), number(10), sign("."), number(0), sign("."), number(0), sign("."), number(0), sign("/"), number(8), sign(","), sign("!"), name("x"), sign("]"),
		on(3, word("alert")), on(3, word("tcp")), on(3, name("home")), on(3, word("any")), on(3, sign("<>")), on(3, sign("!")), on(3, word("any")), on(3, number(80)), on(3, sign("-")), on(3, number(90)), on(3, sign("->")),
		on(4, sign("(")), on(4, word("content")), on(4, sign(":")), on(4, bytes("a\x00")), on(4, sign(";")), on(4, word("distance")), on(4, sign(":")), on(4, sign("-")), on(4, number(5)), on(4, sign(";")), on(4, sign(")")))
}

// P8.1: an empty text.
func TestEmpty(t *testing.T) {
	reads(t, "")
}

// P8.1: a text of MaxText bytes is read; of one with more, nothing is told but that it is too big, whatever is in it.
func TestTooBig(t *testing.T) {
	if api.MaxText != 8192 {
		t.Fatal(api.MaxText)
	}
	for _, unit := range []string{" ", "\n", "\t", "\r", ";", "#", "a ", "1 ", "$a ", "\"\"", "\"|00|\" ", "%", "\"", "<", "\xff", "#%\n", "->"} {
		long := strings.Repeat(unit, api.MaxText+1)
		if got, want := read(long[:api.MaxText]), modelOf(long[:api.MaxText]); !got.is(want) || got.e == api.ErrBig {
			t.Errorf("%q: %v, want %v", unit, got, want)
		}
		for _, n := range []int{api.MaxText + 1, api.MaxText + 2, 2 * api.MaxText, 1 << 16, 1 << 20} {
			s := strings.Repeat(unit, n)[:n]
			if got, want := read(s), (answer{e: api.ErrBig}); !got.is(want) {
				t.Errorf("%q, %d bytes: %v, want %v", unit, n, got, want)
			}
		}
	}
	// Bytes count, not runes.
	s := "#" + strings.Repeat("\u00e9", api.MaxText/2)
	if got, want := read(s), (answer{e: api.ErrBig}); !got.is(want) {
		t.Error(got)
	}
	reads(t, s[:api.MaxText])
	l, _, e := All(strings.Repeat(";", api.MaxText))
	if len(l) != api.MaxText || e != api.OK {
		t.Error(len(l), e)
	}
}

// P8.1, P8.2: what each byte says alone.
func TestByteAlone(t *testing.T) {
	for v := range 256 {
		s := oneByte(v)
		switch {
		case isOf(v, blanks+"#"):
			reads(t, s)
		case isOf(v, great+small):
			reads(t, s, word(strings.ToLower(s)))
		case isOf(v, digits):
			reads(t, s, number(v-'0'))
		case isOf(v, oneSigns):
			reads(t, s, sign(s))
		default:
			refuses(t, s, 1)
		}
	}
}

// P8.1: each blank cuts, and says nothing else, however many there are; 10 alone begins a line.
func TestBlanks(t *testing.T) {
	for _, b := range []string{" ", "\t", "\r", "\n"} {
		for _, n := range []int{1, 2, 3, 100} {
			x := strings.Repeat(b, n)
			line := 1 + strings.Count(x, "\n")
			reads(t, x)
			reads(t, x+"a", on(line, word("a")))
			reads(t, "a"+x, word("a"))
			reads(t, "a"+x+"b", word("a"), on(line, word("b")))
			reads(t, "1"+x+"b", number(1), on(line, word("b")))
			reads(t, "1"+x+"2", number(1), on(line, number(2)))
			reads(t, "-"+x+";", sign("-"), on(line, sign(";")))
			refuses(t, "-"+x+">", line)
			refuses(t, "<"+x+">", 1)
			refuses(t, "$"+x+"a", 1)
		}
	}
	reads(t, "a\r\nb\n\rc\r\rd", word("a"), on(2, word("b")), on(3, word("c")), on(3, word("d")))
}

// P8.1, P8.2: other bytes that stand for blanks or for a line's end elsewhere are none.
func TestNoBlanks(t *testing.T) {
	for _, s := range []string{"\v", "\f", "\x00", "\x1c", "\x1e", "\x85", "\xa0", "\u00a0", "\u2028", "\u2003", "\ufeff"} {
		refuses(t, s, 1)
		refuses(t, "a"+s+"b", 1)
		refuses(t, s+"\na", 1)
	}
}

// P8.1: a comment is up to the line's end, or up to the text's; whatever is in it.
func TestComments(t *testing.T) {
	reads(t, "#")
	reads(t, "##")
	reads(t, "#a 1 \"b\" $c ;")
	reads(t, "#a\n")
	reads(t, "#a\nb", on(2, word("b")))
	reads(t, "#\nb", on(2, word("b")))
	reads(t, "a#b\nc#d", word("a"), on(2, word("c")))
	reads(t, "a # b # c\n#\n # d\ne", word("a"), on(4, word("e")))
	reads(t, "1#a\n2", number(1), on(2, number(2)))
	reads(t, "$a#b", name("a"))
	reads(t, "-#\n", sign("-"))
	reads(t, "\"a\"#\"", bytes("a"))
	reads(t, "#a\rb\r\nc", on(2, word("c")))
	reads(t, "#\\\na", on(2, word("a")))
	for v := range 256 {
		if v == '\n' {
			continue
		}
		s := oneByte(v)
		reads(t, "#"+s)
		reads(t, "a #x"+s+"y\nb", word("a"), on(2, word("b")))
		reads(t, "#"+s+"\nb", on(2, word("b")))
		reads(t, "#x"+s+s+s+"\n\nb", on(3, word("b")))
	}
	for _, s := range foreign() {
		reads(t, "#"+s)
		reads(t, "#"+s+"%\nb", on(2, word("b")))
		reads(t, "#%"+s+"\nb", on(2, word("b")))
		refuses(t, "#"+s+"\n"+s, 2)
	}
	reads(t, "#"+strings.Repeat("%", 1000)+"\na", on(2, word("a")))
}

// P8.1, P8.2: a word is a letter, and letters and digits; MaxWord bytes at most; it is told in small letters.
func TestWords(t *testing.T) {
	reads(t, small[:20], word(small[:20]))
	reads(t, small[6:], word(small[6:]))
	reads(t, great[:20], word(small[:20]))
	reads(t, great[6:], word(small[6:]))
	reads(t, "Alert tCP aLL", word("alert"), word("tcp"), word("all"))
	reads(t, "a0123456789", word("a0123456789"))
	reads(t, "Z9z0A", word("z9z0a"))
	for _, first := range []string{"a", "Z"} {
		for _, behind := range []string{"b", "Y", "7", "aB3"} {
			for n := range 60 {
				s := first + strings.Repeat(behind, n)[:n]
				if len(s) > api.MaxWord {
					refuses(t, s, 1)
				} else {
					reads(t, s, word(strings.ToLower(s)))
					reads(t, s+" "+s+";"+s, word(strings.ToLower(s)), word(strings.ToLower(s)), sign(";"), word(strings.ToLower(s)))
				}
			}
		}
	}
	if api.MaxWord != 20 {
		t.Error(api.MaxWord)
	}
	refuses(t, strings.Repeat("a", 8000), 1)
}

// P8.1, P8.2: what each byte says right behind a word.
func TestBehindWord(t *testing.T) {
	for v := range 256 {
		s := "Ab" + oneByte(v)
		switch {
		case isOf(v, blanks+"#"):
			reads(t, s, word("ab"))
		case isOf(v, great+small+digits):
			reads(t, s, word(strings.ToLower(s)))
		case isOf(v, oneSigns):
			reads(t, s, word("ab"), sign(s[2:]))
		default:
			refuses(t, s, 1)
		}
	}
	reads(t, "a\"b\"c$d-e", word("a"), bytes("b"), word("c"), name("d"), sign("-"), word("e"))
	refuses(t, "a_b", 1)
}

// P8.1, P8.2: digits, and what they say; 999999999999 is the greatest.
func TestNumbers(t *testing.T) {
	for _, n := range []int{0, 1, 9, 10, 11, 99, 255, 65535, 65536, 999999999, math.MaxInt32, math.MaxInt32 + 1, math.MaxUint32, math.MaxUint32 + 1, 123456789012, 999999999998, 999999999999} {
		s := strconv.Itoa(n)
		reads(t, s, number(n))
		reads(t, s+" "+s+"."+s, number(n), number(n), sign("."), number(n))
		for _, zeros := range []int{1, 2, 12, 20, 100, 8000} {
			reads(t, strings.Repeat("0", zeros)+s, number(n))
		}
	}
	for _, s := range []string{
		"1000000000000", "1000000000001", "9999999999999", "10000000000000",
		"9223372036854775807", "9223372036854775808", "18446744073709551615",
		"18446744073709551616", "18446744073709551617", "36893488147419103232", "4611686018427387904", // 2^64 and beyond: a number that goes round would be small
		"340282366920938463463374607431768211456", strings.Repeat("9", 8000), "1" + strings.Repeat("0", 8000),
	} {
		refuses(t, s, 1)
		refuses(t, "000"+s, 1)
		refuses(t, s+"a", 1)
		refuses(t, s+";", 1)
	}
	for v := range 1000 {
		reads(t, strconv.Itoa(v), number(v))
		reads(t, fmt.Sprintf("%05d", v), number(v))
	}
	reads(t, "-5", sign("-"), number(5))
	refuses(t, "+5", 1)
	reads(t, "5.6", number(5), sign("."), number(6))
}

// P8.1, P8.2: what each byte says right behind a number: a letter may not stand there.
func TestBehindNumber(t *testing.T) {
	for v := range 256 {
		s := "07" + oneByte(v)
		switch {
		case isOf(v, blanks+"#"):
			reads(t, s, number(7))
		case isOf(v, digits):
			reads(t, s, number(70+v-'0'))
		case isOf(v, oneSigns):
			reads(t, s, number(7), sign(s[2:]))
		default:
			refuses(t, s, 1)
		}
	}
	reads(t, "5 a", number(5), word("a"))
	reads(t, "5\na", number(5), on(2, word("a")))
	reads(t, "5#a", number(5))
	reads(t, "5$a", number(5), name("a"))
	reads(t, "5\"a\"6", number(5), bytes("a"), number(6))
	refuses(t, "5a", 1)
	refuses(t, "5e3", 1)
	refuses(t, "0x10", 1)
	refuses(t, "10.0.0.1x", 1)
	refuses(t, "999999999999Z", 1)
}

// P8.1, P8.2: `$`, and a word right behind it, without `$`.
func TestVars(t *testing.T) {
	reads(t, "$a", name("a"))
	reads(t, "$HOME $Net1,$b", name("home"), name("net1"), sign(","), name("b"))
	reads(t, "$a$B", name("a"), name("b"))
	reads(t, "!$a", sign("!"), name("a"))
	reads(t, "$a0123456789", name("a0123456789"))
	for n := 1; n <= api.MaxWord; n++ {
		s := strings.Repeat("aB3", n)[:n]
		reads(t, "$"+s, name(strings.ToLower(s)))
		reads(t, "x$"+s+" y", word("x"), name(strings.ToLower(s)), word("y"))
	}
	for _, n := range []int{api.MaxWord + 1, api.MaxWord + 2, 100, 8000} {
		refuses(t, "$"+strings.Repeat("a", n), 1)
		refuses(t, "$"+strings.Repeat("Q1", n)[:n], 1)
	}
	for v := range 256 {
		s := "$" + oneByte(v)
		if isOf(v, great+small) {
			reads(t, s, name(strings.ToLower(s[1:])))
		} else {
			refuses(t, s, 1)
			refuses(t, s+"a", 1)
		}
	}
	refuses(t, "$$a", 1)
	refuses(t, "$5a", 1)
	refuses(t, "$\"a\"", 1)
	refuses(t, "a $", 1)
}

// P8.1, P8.2: which bytes may stand between two `"` as they are.
func TestBytes(t *testing.T) {
	reads(t, `""`, bytes(""))
	reads(t, `""""`, bytes(""), bytes(""))
	reads(t, `"a""b"`, bytes("a"), bytes("b"))
	reads(t, `"a" "b"`, bytes("a"), bytes("b"))
	reads(t, `"a"b"c"`, bytes("a"), word("b"), bytes("c"))
	reads(t, `"a"5`, bytes("a"), number(5))
	reads(t, `"A b  C"`, bytes("A b  C"))
	reads(t, `" "`, bytes(" "))
	reads(t, `"#;$-><>5a"`, bytes("#;$-><>5a"))
	for v := range 256 {
		s := oneByte(v)
		switch {
		case v < 32 || v > 126:
			refuses(t, `"`+s+`"`, 1)
			refuses(t, `"a`+s+`b"`, 1)
		case !isOf(v, `"|\`):
			reads(t, `"`+s+`"`, bytes(s))
			reads(t, `"a`+s+s+`b"`, bytes("a"+s+s+"b"))
		}
	}
	reads(t, `"`+strings.Repeat("xy", 4095)+`"`, bytes(strings.Repeat("xy", 4095)))
	for _, s := range foreign() {
		refuses(t, `"`+s+`"`, 1)
		refuses(t, `"a`+s+`b"`, 1)
	}
}

// P8.1, P8.2: behind `\`, one of three, which is itself.
func TestEscapes(t *testing.T) {
	reads(t, `"\""`, bytes(`"`))
	reads(t, `"\|"`, bytes(`|`))
	reads(t, `"\\"`, bytes(`\`))
	reads(t, `"\"\|\\\\\|\""`, bytes(`"|\\|"`))
	reads(t, `"a\"b\|41\|c\\d"`, bytes(`a"b|41|c\d`))
	reads(t, `"\\""a"`, bytes(`\`), bytes("a"))
	reads(t, `"\\|41|"`, bytes(`\A`))
	reads(t, `"|5c|\""`, bytes(`\"`))
	reads(t, `"\\n"`, bytes(`\n`))
	for v := range 256 {
		if s := oneByte(v); !isOf(v, `"|\`) {
			refuses(t, `"\`+s+`"`, 1)
			refuses(t, `"a\`+s+`b"`, 1)
		}
	}
	for _, s := range foreign() {
		refuses(t, `"\`+s+`"`, 1)
	}
	refuses(t, `"\"`, 1)
	refuses(t, `"\\\"`, 1)
	refuses(t, `"\x41"`, 1)
	reads(t, `"`+strings.Repeat(`\\`, 4095)+`"`, bytes(strings.Repeat(`\`, 4095)))
}

// P8.1: each byte as a pair of digits of sixteen, great and small.
func TestPairs(t *testing.T) {
	for v := range 256 {
		want := bytes(oneByte(v))
		lower, upper := fmt.Sprintf("%02x", v), fmt.Sprintf("%02X", v)
		for _, pair := range []string{lower, upper, lower[:1] + upper[1:], upper[:1] + lower[1:]} {
			reads(t, `"|`+pair+`|"`, want)
			reads(t, `"| `+pair+`  |"`, want)
			reads(t, `"a|`+pair+pair+`|b"`, bytes("a"+want.S+want.S+"b"))
		}
	}
}

// P8.1: blanks ahead of the first pair, between two, behind the last one, none or some; pairs more than once.
func TestPairsBlanks(t *testing.T) {
	for _, ahead := range []string{"", " ", "    "} {
		for _, between := range []string{"", " ", "    "} {
			for _, behind := range []string{"", " ", "    "} {
				reads(t, `"|`+ahead+"41"+between+"42"+between+"43"+behind+`|"`, bytes("ABC"))
			}
		}
	}
	reads(t, `"|41|42|43|"`, bytes("A42C"))
	reads(t, `"|41||42|"`, bytes("AB"))
	reads(t, `"|41| |42|"`, bytes("A B"))
	reads(t, `"|41 4243  44|"`, bytes("ABCD"))
	reads(t, `"|22||7c||5c||0a|"`, bytes("\"|\\\n"))
	reads(t, `"`+strings.Repeat("|00|", 2000)+`"`, bytes(strings.Repeat("\x00", 2000)))
	reads(t, `"|`+strings.Repeat("fF", 4094)+`|"`, bytes(strings.Repeat("\xff", 4094)))
}

// P8.2: something else between two `|`, half a pair, no pair, no end.
func TestPairsRefused(t *testing.T) {
	for v := range 256 {
		s := oneByte(v)
		if !isOf(v, sixteen) {
			refuses(t, `"|`+s+`0|"`, 1)
			refuses(t, `"|0`+s+`|"`, 1)
		}
		if v != ' ' {
			refuses(t, `"|00`+s+`|"`, 1)
			refuses(t, `"|00`+s+`11|"`, 1)
		}
	}
	for _, s := range foreign() {
		refuses(t, `"|`+s+`|"`, 1)
		refuses(t, `"|0`+s+`|"`, 1)
		refuses(t, `"|00`+s+`|"`, 1)
	}
	for _, s := range []string{
		`"||"`, `"| |"`, `"|   |"`, `"a||b"`, `"|41|||"`, // no pair
		`"|0|"`, `"|000|"`, `"|00 0|"`, `"|0 00|"`, `"|0 d|"`, `"| 0 |"`, `"|0 0|"`, `"|41 4|"`, `"|4 1|"`, // half a pair
		`"|`, `"| `, `"|0`, `"|00`, `"|00 `, `"|00"`, `"|00|`, `"|"`, `"a|"`, `"|41|42|"`, // no end
		`"|0x41|"`, `"|4g|"`, `"|g4|"`, `"|-1|"`, `"|41,42|"`, `"|\||"`, `"|\41|"`, // something else
	} {
		refuses(t, s, 1)
	}
}

// P8.2: bytes that do not end in their line; the line that is told is that in which they begin.
func TestEndless(t *testing.T) {
	for _, s := range []string{
		`"`, `"a`, `"a b ; # c`, `"\`, `"\"`, `"\\`, `"\|`, `"|`, `"|4`, `"|41`, `"|41 `, `"|41|`, `"|41|a`, `"""`, `"a""b`, `"a" "`,
	} {
		refuses(t, s, 1)
		refuses(t, s+"\n", 1)
		refuses(t, s+"\n\"", 1)
		refuses(t, s+"\r\n\"", 1)
		refuses(t, s+"\n41|\"", 1)
		refuses(t, s+"\n|\"", 1)
		refuses(t, "\n\n"+s+"\n\"", 3)
	}
	refuses(t, "\"a\n\nb\"", 1)
	refuses(t, "\"a\\\nb\"", 1)
	refuses(t, `"`+strings.Repeat("a", 8000), 1)
	refuses(t, `"|`+strings.Repeat("41 ", 2600), 1)
}

// P8.1, P8.2: each sign; of two bytes the longest.
func TestSigns(t *testing.T) {
	for _, r := range oneSigns {
		s := string(r)
		reads(t, s, sign(s))
		reads(t, s+" "+s, sign(s), sign(s))
		reads(t, "a"+s+"1"+s+"$b"+s+"\"c\""+s, word("a"), sign(s), number(1), sign(s), name("b"), sign(s), bytes("c"), sign(s))
	}
	reads(t, "();:,/[]!-.=", sign("("), sign(")"), sign(";"), sign(":"), sign(","), sign("/"), sign("["), sign("]"), sign("!"), sign("-"), sign("."), sign("="))
	reads(t, "->", sign("->"))
	reads(t, "<>", sign("<>"))
	reads(t, "-", sign("-"))
	reads(t, "--", sign("-"), sign("-"))
	reads(t, "-->", sign("-"), sign("->"))
	reads(t, "->-", sign("->"), sign("-"))
	reads(t, "->->", sign("->"), sign("->"))
	reads(t, "<><>-><>-", sign("<>"), sign("<>"), sign("->"), sign("<>"), sign("-"))
	reads(t, "1-2->3<>4", number(1), sign("-"), number(2), sign("->"), number(3), sign("<>"), number(4))
	for _, s := range []string{"<", ">", "<<>", "<>>", "->>", "< >", "><", "<-", "<->", "<=", ">=", "=>", "- >", "-#\n>", "<#\n>", "a<b", "a>b", "<\n>"} {
		line := 1
		if strings.HasSuffix(s, "\n>") && s[0] == '-' {
			line = 2
		}
		refuses(t, s, line)
	}
}

// P8.1, P8.2: of every two bytes that begin like a sign.
func TestSignPairs(t *testing.T) {
	for _, a := range oneSigns {
		for v := range 256 {
			s := string(a) + oneByte(v)
			switch {
			case s == "->":
				reads(t, s, sign(s))
			case isOf(v, blanks+"#"):
				reads(t, s, sign(s[:1]))
			case isOf(v, oneSigns):
				reads(t, s, sign(s[:1]), sign(s[1:]))
			case isOf(v, great+small):
				reads(t, s, sign(s[:1]), word(strings.ToLower(s[1:])))
			case isOf(v, digits):
				reads(t, s, sign(s[:1]), number(v-'0'))
			default:
				refuses(t, s, 1)
			}
		}
	}
	for v := range 256 {
		if v != '>' {
			refuses(t, "<"+oneByte(v), 1)
		}
		refuses(t, ">"+oneByte(v), 1)
	}
}

// P8.2: what is beyond ASCII is another byte, wherever it stands but in a comment.
func TestForeign(t *testing.T) {
	for _, s := range foreign() {
		for _, ahead := range []string{"", "a", "5", "$", "$a", "-", "->", "\"b\"", "<", " "} {
			for _, behind := range []string{"", "a", "5", ">", ";", " "} {
				refuses(t, ahead+s+behind, 1)
			}
		}
	}
}

// P8.1: lines are told from 1 on; of bytes that in which they begin.
func TestLines(t *testing.T) {
	reads(t, "a\n1\n$b\n\"c\"\n;\n->\n", word("a"), on(2, number(1)), on(3, name("b")), on(4, bytes("c")), on(5, sign(";")), on(6, sign("->")))
	reads(t, "\n\n\na b\n\nc", on(4, word("a")), on(4, word("b")), on(6, word("c")))
	reads(t, "\"a|0a|\" \"|0A|\"\nb", bytes("a\n"), bytes("\n"), on(2, word("b"))) // a byte 10 that is told in digits ends no line
	reads(t, "#\n#\n\n#a\nb", on(5, word("b")))
	reads(t, strings.Repeat("\n", api.MaxText-1)+"a", on(api.MaxText, word("a")))
	reads(t, "a"+strings.Repeat("\n", api.MaxText-2)+";", word("a"), on(api.MaxText-1, sign(";")))
	if got, want := read(strings.Repeat("\n", api.MaxText-1)+"%"), (answer{line: api.MaxText, e: api.ErrText}); !got.is(want) {
		t.Error(got)
	}
}

// P8.2: of several faults, the first one's line is told; of the tokens ahead of it nothing.
func TestFirstFault(t *testing.T) {
	faults := []string{"%", "<", ">", "$", "$5", "5a", "1000000000000", strings.Repeat("a", 21), "$" + strings.Repeat("a", 21), `"`, `"\a"`, `"||"`, `"|0|"`, "\"a\n\"", "\x00", "\xff"}
	for _, a := range faults {
		for _, b := range faults {
			refuses(t, a+"\n"+b, 1)
			refuses(t, "a 1 $b \"c\" ;\n\n"+a+"\n"+b, 3)
			refuses(t, "#"+b+"\n"+a+"\n"+b, 2)
		}
	}
}

// piece is a token, and a way to write it.
type piece struct {
	s string
	t Token
}

// pieces are tokens of each kind.
func pieces() []piece {
	l := []piece{
		{"a", word("a")}, {"Z", word("z")}, {"f00Bar", word("f00bar")}, {"abcdefghijKLMNOPQRST", word("abcdefghijklmnopqrst")},
		{"0", number(0)}, {"00012", number(12)}, {"999999999999", number(999999999999)},
		{"$x", name("x")}, {"$Home0", name("home0")}, {"$abcdefghijKLMNOPQRST", name("abcdefghijklmnopqrst")},
		{`""`, bytes("")}, {`"a # b"`, bytes("a # b")}, {`"\"\|\\"`, bytes(`"|\`)}, {`"|00 fF 0a|x| 41 |"`, bytes("\x00\xff\nxA")},
		{"->", sign("->")}, {"<>", sign("<>")},
	}
	for _, r := range oneSigns {
		l = append(l, piece{string(r), sign(string(r))})
	}
	return l
}

// needsBlank tells whether two tokens would be read as another one, or not at all, if nothing stood between.
func needsBlank(a, b piece) bool {
	return (a.t.Kind == Word || a.t.Kind == Var || a.t.Kind == Number) && (b.t.Kind == Word || b.t.Kind == Number)
}

// P8.3: each two tokens, with blanks and without.
func TestBlanksBetweenTwo(t *testing.T) {
	for _, a := range pieces() {
		for _, b := range pieces() {
			if !needsBlank(a, b) {
				reads(t, a.s+b.s, a.t, b.t)
			}
			for _, x := range []string{" ", "\t", "\r", "\n", "  ", "\n\n", " \r\n\t", "\n \n"} {
				line := 1 + strings.Count(x, "\n")
				reads(t, a.s+x+b.s, a.t, on(line, b.t))
				reads(t, x+a.s+x+b.s+x, on(line, a.t), on(2*line-1, b.t))
			}
			reads(t, a.s+"#"+b.s+"\n"+b.s, a.t, on(2, b.t))
		}
	}
}

// P8.3: texts of many tokens, with blanks here and there.
func TestBlanksTurnNothing(t *testing.T) {
	d := dice(88172645463325252)
	all := pieces()
	for range 3000 {
		tight, loose := "", ""
		var one, other []Token
		var last piece
		line := 1
		for range 1 + d.below(40) {
			p := all[d.below(len(all))]
			if needsBlank(last, p) {
				tight += " "
				loose += " "
			}
			for range d.below(4) {
				x := blanks[d.below(len(blanks))]
				loose += string(x)
				if x == '\n' {
					line++
				}
			}
			tight += p.s
			loose += p.s
			one = append(one, p.t)
			other = append(other, on(line, p.t))
			last = p
		}
		reads(t, tight, one...)
		reads(t, loose, other...)
	}
}

// dice are numbers that look like nothing in particular, the same ones each time.
type dice uint64

// below is the next number, from 0 on and below n.
func (d *dice) below(n int) int {
	x := uint64(*d)
	x ^= x << 13
	x ^= x >> 7
	x ^= x << 17
	*d = dice(x)
	return int(x>>11) % n
}

// modelRead is the chapter's grammar as a regular expression: blanks and comments, a word, a number and the letters behind it, a var, bytes, a sign.
var modelRead = regexp.MustCompile(`^(?:([ \t\r\n]+|#[^\n]*)|([A-Za-z][A-Za-z0-9]*)|([0-9]+[A-Za-z]?)|\$([A-Za-z][A-Za-z0-9]*)|"((?:[ !#-\[\]-{}~]|\\["|\\]|\| *[0-9a-fA-F]{2}(?: *[0-9a-fA-F]{2})* *\|)*)"|(->|<>|[();:,/\[\]!\-.=]))`)

// modelPart is a part of what stands between two `"`.
var modelPart = regexp.MustCompile(`\\.|\|[^|]*\||.`)

// modelBytes is what stands between two `"`, read.
func modelBytes(s string) string {
	return modelPart.ReplaceAllStringFunc(s, func(part string) string {
		switch {
		case part[0] == '\\':
			return part[1:]
		case part[0] != '|':
			return part
		}
		hex := strings.ReplaceAll(strings.Trim(part, "|"), " ", "")
		var b []byte
		for i := 0; i < len(hex); i += 2 {
			v, _ := strconv.ParseUint(hex[i:i+2], 16, 8)
			b = append(b, byte(v))
		}
		return string(b)
	})
}

// modelOf is what All must answer, worked out another way.
func modelOf(s string) answer {
	if len(s) > api.MaxText {
		return answer{e: api.ErrBig}
	}
	var l []Token
	line := 1
	for s != "" {
		m := modelRead.FindStringSubmatchIndex(s)
		if m == nil {
			return answer{line: line, e: api.ErrText}
		}
		group := 1
		for m[2*group] < 0 {
			group++
		}
		x := s[m[2*group]:m[2*group+1]]
		k := Token{Line: line}
		wrong := false
		switch group {
		case 1:
			line += strings.Count(x, "\n")
		case 2:
			k.Kind, k.S, wrong = Word, strings.ToLower(x), len(x) > 20
		case 3:
			n, err := strconv.ParseInt(x, 10, 64)
			k.Kind, k.N, wrong = Number, int(n), err != nil || n >= 1e12
		case 4:
			k.Kind, k.S, wrong = Var, strings.ToLower(x), len(x) > 20
		case 5:
			k.Kind, k.S = Bytes, modelBytes(x)
		case 6:
			k.Kind, k.S = Sign, x
		}
		if wrong {
			return answer{line: line, e: api.ErrText}
		}
		if group > 1 {
			l = append(l, k)
		}
		s = s[m[1]:]
	}
	return answer{l: l}
}

// asModel tells by the test whether a text is answered as the model answers it.
func asModel(t *testing.T, s string) {
	t.Helper()
	if got, want := read(s), modelOf(s); !got.is(want) {
		t.Fatalf("%+q: %v, want %v", s, got, want)
	}
}

// P8.1, P8.2: all texts of one and of two bytes, and such between two `"`.
func TestAllShort(t *testing.T) {
	for a := range 256 {
		asModel(t, oneByte(a))
		for b := range 256 {
			s := oneByte(a) + oneByte(b)
			asModel(t, s)
			asModel(t, "\""+s+"\"")
		}
	}
}

// P8.1, P8.2: all texts of up to five bytes of each kind.
func TestAllOfFew(t *testing.T) {
	const few = "aF0 \n#$\"|\\->%"
	level := []string{""}
	for range 5 {
		var longer []string
		for _, s := range level {
			for i := range len(few) {
				longer = append(longer, s+few[i:i+1])
			}
		}
		for _, s := range longer {
			asModel(t, s)
		}
		level = longer
	}
}

// P8.1, P8.2: texts thrown together from what has a meaning.
func TestThrown(t *testing.T) {
	d := dice(2463534242)
	parts := []string{
		"a", "Zz9", "abcdefghij", "ABCDEFGHI0", "0", "7", "99999", "999999999999", "$", "$q", " ", "  ", "\t", "\r", "\n", "\n", "#", "#%\n", "(", ")", ";", ":", ",", "/", "[", "]", "!", "-", ".", "=", "->", "<>", "<", ">",
		"\"", "\"\"", "\"a\"", "\"|41 42|\"", "|", "41", "4", " 0d0A ", "\\", "\\\"", "\\|", "\\\\", "|00|", "| fF |", "%", "\x00", "\x7f", "\xff", "\u00e9", "~", "\"a", "b\"", "~ \"",
	}
	for range 200000 {
		s := ""
		for range d.below(14) {
			s += parts[d.below(len(parts))]
		}
		asModel(t, s)
	}
	plain := parts[:30]
	for range 50000 {
		s := ""
		for range d.below(30) {
			s += plain[d.below(len(plain))]
		}
		asModel(t, s)
	}
	inner := []string{"a", " ", "~", "!", "|41|", "|00 fF|", "| 0a |", "|6162|", "\\\"", "\\|", "\\\\", "#", "$", "0"}
	for range 50000 {
		s := "\""
		for range d.below(20) {
			s += inner[d.below(len(inner))]
		}
		s += "\""
		if at := d.below(4 * len(s)); at < len(s) { // here and there a byte is another one
			s = s[:at] + oneByte(d.below(256)) + s[at+1:]
		}
		asModel(t, s)
	}
}

// R1: texts of any bytes are answered.
func TestAnything(t *testing.T) {
	d := dice(362436069)
	for range 20000 {
		b := make([]byte, d.below(60))
		for i := range b {
			b[i] = byte(d.below(256))
		}
		asModel(t, string(b))
		asModel(t, "#"+string(b))
	}
}

// R3, R4: what was answered is new memory, spare room too; an answer hangs on the text alone.
func TestNewMemory(t *testing.T) {
	const s = "a 1 $b \"c|00|\"\n-> ;"
	want := answer{l: []Token{word("a"), number(1), name("b"), bytes("c\x00"), on(2, sign("->")), on(2, sign(";"))}}
	one, other := read(s), read(s)
	clear(one.l[:cap(one.l)])
	_ = append(one.l, word("x"))
	read("%")
	read("b \"x\" 2")
	if !other.is(want) || !read(s).is(want) {
		t.Error(other, read(s))
	}
}
