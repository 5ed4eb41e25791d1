package sum

import (
	"math"
	"slices"
	"strings"
	"testing"
)

// textOf is n bytes that look like nothing in particular, the same ones each time.
func textOf(n, seed int) string {
	b := make([]byte, n)
	x := uint32(seed)*2654435761 + 12345
	for i := range b {
		x = x*1664525 + 1013904223
		b[i] = byte(x >> 24)
	}
	return string(b)
}

// slowSum is the document's words one by one: all as one text, a byte 0 behind if one is missing, each word added with its carry.
func slowSum(s string) int {
	if len(s)%2 == 1 {
		s += "\x00"
	}
	var total uint16
	for i := 0; i < len(s); i += 2 {
		w := uint16(s[i])<<8 | uint16(s[i+1])
		total += w
		if total < w {
			total++
		}
	}
	return int(^total)
}

// P1.1, Of: ordinary texts, no parts, empty parts, a byte too few, carries that bring a carry.
func TestOf(t *testing.T) {
	for _, x := range []struct {
		name  string
		parts []string
		want  int
	}{
		{"no parts", nil, 65535},
		{"an empty part", []string{""}, 65535},
		{"empty parts", []string{"", "", ""}, 65535},
		{"one word", []string{"\x12\x34"}, 0xedcb},
		{"two words", []string{"\x12\x34\x01\x02"}, 0xecc9},
		{"one byte", []string{"\x12"}, 0xedff},
		{"three bytes", []string{"\x00\x01\x02"}, 0xfdfe},
		{"a byte in each part", []string{"\x12", "\x34"}, 0xedcb},
		{"an empty part within a word", []string{"\x12", "", "\x34"}, 0xedcb},
		{"a part that ends in a word, and one too few", []string{"\x12", "\x34\x01"}, 0xeccb},
		{"zeros", []string{"\x00\x00\x00\x00"}, 65535},
		{"all bits", []string{"\xff\xff"}, 0},
		{"all bits twice", []string{"\xff\xff\xff\xff"}, 0},
		{"a carry", []string{"\x80\x00\x80\x00"}, 65534},
		{"a carry that is added below", []string{"\xff\xff\x00\x01"}, 65534},
		{"a carry that brings one more", []string{"\xff\xff\xff\xff\x00\x01"}, 65534},
		{"a carry out of one byte too few", []string{"\xff\x00\x01"}, 65534},
		{"the head of RFC 1071", []string{"\x00\x01\xf2\x03\xf4\xf5\xf6\xf7"}, 0x220d},
		{"a datagram's head", []string{"\x45\x00\x00\x73\x00\x00\x40\x00\x40\x11\x00\x00\xc0\xa8\x00\x01\xc0\xa8\x00\xc7"}, 0xb861},
	} {
		if got := Of(x.parts...); got != x.want {
			t.Errorf("%s: %#x, want %#x", x.name, got, x.want)
		}
	}
}

// P1.1, Of: bytes that are no letters are bytes all the same.
func TestOfEveryByte(t *testing.T) {
	for v := range 256 {
		one := string([]byte{byte(v)})
		if got, want := Of(one), 65535-v*256; got != want {
			t.Errorf("%#x high: %#x, want %#x", v, got, want)
		}
		if got, want := Of("\x00", one), 65535-v; got != want {
			t.Errorf("%#x low: %#x, want %#x", v, got, want)
		}
	}
}

// P1.1, Of: texts of many lengths, and one in which many carries come together.
func TestOfAgainstSlowSum(t *testing.T) {
	for n := range 400 {
		s := textOf(n, n)
		if got, want := Of(s), slowSum(s); got != want {
			t.Errorf("%d bytes: %#x, want %#x", n, got, want)
		}
	}
	for _, s := range []string{strings.Repeat("\xff", 200001), strings.Repeat("\xff\xfe", 70000), textOf(300001, 7)} {
		if got, want := Of(s), slowSum(s); got != want {
			t.Errorf("%d bytes: %#x, want %#x", len(s), got, want)
		}
	}
}

// P1.1, Of: parts are one behind the other, wherever they are cut.
func TestOfCuts(t *testing.T) {
	for _, n := range []int{1, 2, 7, 20, 21} {
		s := textOf(n, n+50)
		want := slowSum(s)
		for i := 0; i <= n; i++ {
			for j := i; j <= n; j++ {
				if got := Of(s[:i], s[i:j], "", s[j:]); got != want {
					t.Errorf("%d bytes cut at %d and %d: %#x, want %#x", n, i, j, got, want)
				}
			}
		}
		var single []string
		for i := range n {
			single = append(single, s[i:i+1])
		}
		if got := Of(single...); got != want {
			t.Errorf("%d bytes one by one: %#x, want %#x", n, got, want)
		}
	}
}

// R3 and R4: the parts stay as they are, and the same parts have the same sum.
func TestOfKeepsParts(t *testing.T) {
	parts := []string{"\x01", "", "\x02\x03", "\xff"}
	was := slices.Clone(parts)
	first := Of(parts...)
	if second := Of(parts...); first != second || !slices.Equal(parts, was) {
		t.Errorf("%#x, then %#x; parts %q", first, second, parts)
	}
}

// P1.1, Add: with a carry and without, of numbers above sixteen bits and below 0; not turned.
func TestAdd(t *testing.T) {
	for _, x := range []struct{ a, b, want int }{
		{0, 0, 0},
		{1, 2, 3},
		{0x1234, 0x4321, 0x5555},
		{65535, 0, 65535},
		{0, 65535, 65535},
		{65534, 1, 65535},
		{65535, 1, 1},
		{65535, 65535, 65535},
		{0x8000, 0x8000, 1},
		{0xf000, 0x1001, 2},
		{65536, 0, 0},
		{65536, 65536, 0},
		{65541, 7, 12},
		{7, 65541, 12},
		{0x1ffff, 1, 1},
		{-1, 0, 65535},
		{0, -1, 65535},
		{-1, -1, 65535},
		{-2, 1, 65535},
		{-2, 3, 2},
		{-65536, 5, 5},
		{math.MaxInt, 1, 1},
		{math.MaxInt, math.MaxInt, 65535},
		{math.MinInt, 9, 9},
		{math.MinInt, math.MinInt, 0},
		{math.MaxInt, math.MinInt, 65535},
	} {
		if got := Add(x.a, x.b); got != x.want {
			t.Errorf("%#x and %#x: %#x, want %#x", x.a, x.b, got, x.want)
		}
	}
}

// P1.1, Add: it adds as Of does, but for the turning.
func TestAddIsOfTurned(t *testing.T) {
	edges := []int{0, 1, 2, 0xff, 0x100, 0x7fff, 0x8000, 0xfffe, 0xffff, 0x10000, -1, -0x8000}
	for _, a := range edges {
		for _, b := range edges {
			if got, want := Add(a, b), 65535-Of(Big(a, 2), Big(b, 2)); got != want {
				t.Errorf("%#x and %#x: %#x, want %#x", a, b, got, want)
			}
		}
	}
}

// P1.1, Big: n from 0 to 8 and cut to it; numbers that need more bytes than there are, and below 0.
func TestBig(t *testing.T) {
	for _, x := range []struct {
		v, n int
		want string
	}{
		{0, 0, ""},
		{5, 0, ""},
		{5, -1, ""},
		{5, -3, ""},
		{5, math.MinInt, ""},
		{0, 1, "\x00"},
		{258, 1, "\x02"},
		{258, 2, "\x01\x02"},
		{258, 3, "\x00\x01\x02"},
		{0x010203, 2, "\x02\x03"},
		{0x0102030405060708, 7, "\x02\x03\x04\x05\x06\x07\x08"},
		{0x0102030405060708, 8, "\x01\x02\x03\x04\x05\x06\x07\x08"},
		{0x0102030405060708, 9, "\x01\x02\x03\x04\x05\x06\x07\x08"},
		{1, 99, "\x00\x00\x00\x00\x00\x00\x00\x01"},
		{1, math.MaxInt, "\x00\x00\x00\x00\x00\x00\x00\x01"},
		{-1, 1, "\xff"},
		{-1, 3, "\xff\xff\xff"},
		{-2, 8, "\xff\xff\xff\xff\xff\xff\xff\xfe"},
		{-256, 2, "\xff\x00"},
		{math.MaxInt, 8, "\x7f\xff\xff\xff\xff\xff\xff\xff"},
		{math.MinInt, 8, "\x80\x00\x00\x00\x00\x00\x00\x00"},
		{math.MinInt, 7, "\x00\x00\x00\x00\x00\x00\x00"},
	} {
		if got := Big(x.v, x.n); got != x.want {
			t.Errorf("%#x in %d: %q, want %q", x.v, x.n, got, x.want)
		}
	}
}

// P1.1, Num: from no byte to seven, and the last seven of more.
func TestNum(t *testing.T) {
	for _, x := range []struct {
		s    string
		want int
	}{
		{"", 0},
		{"\x00", 0},
		{"\x05", 5},
		{"\xff", 255},
		{"\x01\x02", 258},
		{"\x00\x00\x01\x02", 258},
		{"\x80\x00", 0x8000},
		{"\xff\xff\xff\xff", 1<<32 - 1},
		{"\x01\x02\x03\x04\x05\x06", 0x010203040506},
		{"\x01\x02\x03\x04\x05\x06\x07", 0x01020304050607},
		{"\xff\xff\xff\xff\xff\xff\xff", 1<<56 - 1},
		{"\x01\x02\x03\x04\x05\x06\x07\x08", 0x02030405060708},
		{"\xff\xff\xff\xff\xff\xff\xff\xff", 1<<56 - 1},
		{"\x09\x00\x00\x00\x00\x00\x01\x02", 258},
		{"\x09\x09\x01\x02\x03\x04\x05\x06\x07", 0x01020304050607},
		{strings.Repeat("\xee", 1000) + "\x00\x00\x00\x00\x00\x01\x02", 258},
	} {
		if got := Num(x.s); got != x.want {
			t.Errorf("%q: %#x, want %#x", x.s, got, x.want)
		}
	}
}

// P1.1, Num: back from Big, the lowest n bytes, at most seven.
func TestNumIsBack(t *testing.T) {
	for _, v := range []int{0, 1, 255, 256, 65535, 65536, 0x0123456789abcdef, -1, -2, -65536, math.MaxInt, math.MinInt} {
		for n := -1; n <= 9; n++ {
			kept := max(0, min(n, 7))
			want := v & (1<<(8*kept) - 1)
			if got := Num(Big(v, n)); got != want {
				t.Errorf("%#x in %d: %#x, want %#x", v, n, got, want)
			}
		}
	}
}

// P1.2: whichever word of a text is left for its sum, with the sum in place it has the sum 0.
func TestSumInPlace(t *testing.T) {
	for n := 2; n <= 41; n++ {
		for _, s := range []string{textOf(n, n), strings.Repeat("\x00", n), strings.Repeat("\xff", n)} {
			for at := 0; at+2 <= n; at += 2 {
				head, tail := s[:at], s[at+2:]
				own := Big(Of(head, "\x00\x00", tail), 2)
				if got := Of(head, own, tail); got != 0 {
					t.Errorf("%q with its sum at %d: %#x, want 0", s, at, got)
				}
				if got := Of(head + own + tail); got != 0 {
					t.Errorf("%q with its sum at %d, in one: %#x, want 0", s, at, got)
				}
			}
		}
	}
}

// P1.2: the sum may be split between two parts, and may stand behind a text of words.
func TestSumInPlaceSplit(t *testing.T) {
	for n := 0; n <= 40; n += 2 {
		s := textOf(n, n+9)
		own := Big(Of(s), 2)
		if got := Of(s, own[:1], own[1:]); got != 0 {
			t.Errorf("%d bytes: %#x, want 0", n, got)
		}
	}
}

// P1.2: a sum that is another one is seen.
func TestWrongSumInPlace(t *testing.T) {
	s := textOf(20, 3)
	right := Of(s)
	for v := range 65536 {
		if got := Of(s, Big(v, 2)); (got == 0) != (v == right) {
			t.Fatalf("sum %#x in place of %#x: %#x", v, right, got)
		}
	}
}
