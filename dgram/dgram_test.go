package dgram

import (
	"math"
	"strings"
	"testing"

	"rampart/api"
)

const from, to = 0x0a010203, 0xc0a880fe // both ends' addresses

// textOf is n bytes that look like nothing in particular, the same ones each time.
func textOf(n, seed int) string {
	b := make([]byte, n)
	x := uint32(seed)*2654435761 + 12345
	for i := range b {
		x = x*1664525 + 1013904223
		b[i] = byte(x >> 24)
	}
	return string(b)
}

// with is bytes with others at a place.
func with(s string, at int, w string) string {
	return s[:at] + w + s[at+len(w):]
}

// twoBytes is the lowest two bytes of a number, the highest first.
func twoBytes(v int) string {
	return string([]byte{byte(v >> 8), byte(v)})
}

// sumOf is the sum of words and of bytes behind them, worked out word by word, without package sum.
func sumOf(s string, words ...int) int {
	if len(s)%2 == 1 {
		s += "\x00"
	}
	for i := 0; i < len(s); i += 2 {
		words = append(words, int(s[i])<<8+int(s[i+1]))
	}
	v := 0
	for _, w := range words {
		v += w
		if v > 65535 {
			v -= 65535
		}
	}
	return 65535 - v
}

// udpSum is the sum of a message of UDP as it stands, with what is summed ahead of it.
func udpSum(src, dst uint32, s string) int {
	return sumOf(s, int(src>>16), int(src&65535), int(dst>>16), int(dst&65535), 17, len(s)&65535)
}

// udpSummed is bytes with their sum of UDP put right.
func udpSummed(src, dst uint32, s string) string {
	v := udpSum(src, dst, with(s, 6, "\x00\x00"))
	if v == 0 {
		v = 65535
	}
	return with(s, 6, twoBytes(v))
}

// udpBytes is a message of UDP, written down byte by byte as the chapter tells it.
func udpBytes(src, dst uint32, h api.Dgram, body string) string {
	return udpSummed(src, dst, twoBytes(h.Src)+twoBytes(h.Dst)+twoBytes(8+len(body))+"\x00\x00"+body)
}

// icmpSummed is bytes with their sum of ICMP put right.
func icmpSummed(s string) string {
	return with(s, 2, twoBytes(sumOf(with(s, 2, "\x00\x00"))))
}

// icmpBytes is a message of ICMP, written down byte by byte as the chapter tells it.
func icmpBytes(h api.Dgram, body string) string {
	b := []byte{byte(h.Kind), byte(h.Code), 0, 0, byte(h.Rest >> 24), byte(h.Rest >> 16), byte(h.Rest >> 8), byte(h.Rest)}
	return icmpSummed(string(b) + body)
}

// plainUDP is a head whose ports differ in each byte.
func plainUDP() api.Dgram {
	return api.Dgram{Src: 0x1234, Dst: 0x5678}
}

// plainICMP is a head whose fields differ in each byte.
func plainICMP() api.Dgram {
	return api.Dgram{Kind: 0x21, Code: 0x43, Rest: 0x9abcdef0}
}

// udpHeads are heads with each port at its first and last places.
func udpHeads() []api.Dgram {
	heads := []api.Dgram{{}, plainUDP(), {Src: 65535, Dst: 65535}}
	for _, v := range []int{1, 53, 255, 256, 32767, 32768, 65280, 65534, 65535} {
		heads = append(heads, api.Dgram{Src: v}, api.Dgram{Dst: v})
	}
	return heads
}

// icmpHeads are heads with each field at its first and last places.
func icmpHeads() []api.Dgram {
	heads := []api.Dgram{{}, plainICMP(), {Kind: 255, Code: 255, Rest: math.MaxUint32}}
	for _, v := range []int{1, 3, 8, 127, 128, 254, 255} {
		heads = append(heads, api.Dgram{Kind: v}, api.Dgram{Code: v})
	}
	for _, v := range []uint32{1, 255, 256, 1 << 16, 0x01020304, 1 << 31, math.MaxUint32 - 1, math.MaxUint32} {
		heads = append(heads, api.Dgram{Rest: v})
	}
	return heads
}

// bodies are bodies up to as many bytes as there may be.
func bodies() []string {
	return []string{"", "x", "\x00", "\xff", "\x00\x00", "\xff\xff", "\xff\xfe\xfd", textOf(236, 1), textOf(1460, 2), textOf(1991, 3), textOf(1992, 4), strings.Repeat("\xff", 1992)}
}

// refused tells whether all but the error is zero.
func refused(h api.Dgram, body string, e, want api.Errno) bool {
	return h == (api.Dgram{}) && body == "" && e == want
}

// P5.1, PutUDP: messages written out, their sums among their bytes.
func TestPutUDPWrittenOut(t *testing.T) {
	for _, x := range []struct {
		src, dst uint32
		h        api.Dgram
		body     string
		want     string
	}{
		// 17, 8 and 8 are summed: 0x0021.
		{0, 0, api.Dgram{}, "", "\x00\x00\x00\x00\x00\x08\xff\xde"},
		// 1, 2, 17, 9, 3, 4, 9 and 'b' as the upper half of a word: 0x622d.
		{1, 2, api.Dgram{Src: 3, Dst: 4}, "b", "\x00\x03\x00\x04\x00\x09\x9d\xd2b"},
		// 17, 10, 10 and 0xffda: 0xffff, so the sum is 0, and is told as 65535.
		{0, 0, api.Dgram{}, "\xff\xda", "\x00\x00\x00\x00\x00\x0a\xff\xff\xff\xda"},
		// 17, 10, 10 and 0xffdb: 0x10000, which is 1.
		{0, 0, api.Dgram{}, "\xff\xdb", "\x00\x00\x00\x00\x00\x0a\xff\xfe\xff\xdb"},
		// 17, 10, 10 and 0xffd9: 0xfffe.
		{0, 0, api.Dgram{}, "\xff\xd9", "\x00\x00\x00\x00\x00\x0a\x00\x01\xff\xd9"},
	} {
		if s, e := PutUDP(x.src, x.dst, x.h, x.body); s != x.want || e != api.OK {
			t.Errorf("%#v, %q: %q, %d, want %q", x.h, x.body, s, e, x.want)
		}
	}
}

// P5.1, PutUDP: the bytes of every head that may be, with bodies up to MaxData in all.
func TestPutUDP(t *testing.T) {
	for _, h := range udpHeads() {
		for _, body := range bodies() {
			if s, e := PutUDP(from, to, h, body); s != udpBytes(from, to, h, body) || e != api.OK {
				t.Errorf("%#v, body of %d: %d bytes, %d", h, len(body), len(s), e)
			}
		}
	}
}

// P5.1, PutUDP: every port about what it may be, of either end.
func TestPutUDPPorts(t *testing.T) {
	ports := []int{math.MinInt, math.MaxInt, -65535, -65536, 1 << 31, 1 << 32, 1<<32 + 53, -1 << 32}
	for v := -300; v < 66000; v++ {
		ports = append(ports, v)
	}
	for _, v := range ports {
		for _, h := range []api.Dgram{{Src: v}, {Dst: v}, {Src: v, Dst: 7}, {Src: 7, Dst: v}, {Src: v, Dst: v}} {
			s, e := PutUDP(from, to, h, "b")
			may := 0 <= v && v <= 65535
			if may && (s != udpBytes(from, to, h, "b") || e != api.OK) {
				t.Fatalf("%#v: %q, %d", h, s, e)
			}
			if !may && (s != "" || e != api.ErrArg) {
				t.Fatalf("%#v: %q, %d, want ErrArg alone", h, s, e)
			}
		}
	}
}

// P5.1, PutUDP: each byte of both addresses is summed, at its place in a word; they stand nowhere else.
func TestPutUDPAddresses(t *testing.T) {
	addresses := []uint32{0, math.MaxUint32, 0x01020304}
	for bit := range 32 {
		addresses = append(addresses, 1<<bit)
	}
	for _, a := range addresses {
		for _, x := range [][2]uint32{{a, 0}, {0, a}, {a, a}, {a, to}, {from, a}} {
			s, e := PutUDP(x[0], x[1], plainUDP(), "body")
			if s != udpBytes(x[0], x[1], plainUDP(), "body") || e != api.OK {
				t.Errorf("%#x, %#x: %q, %d", x[0], x[1], s, e)
			}
		}
	}
}

// P5.1, PutUDP: of all sums that there are, 0 alone is told as another number.
func TestPutUDPEverySum(t *testing.T) {
	zeros := 0
	for v := range 1 << 16 {
		body := twoBytes(v)
		s, e := PutUDP(from, to, plainUDP(), body)
		if s != udpBytes(from, to, plainUDP(), body) || e != api.OK || s[6:8] == "\x00\x00" {
			t.Fatalf("%q: %q, %d", body, s, e)
		}
		if s[6:8] == "\xff\xff" {
			zeros++
		}
		if h, b, e := GetUDP(from, to, s); h != plainUDP() || b != body || e != api.OK {
			t.Fatalf("%q: %#v, %q, %d", body, h, b, e)
		}
	}
	if zeros != 1 {
		t.Errorf("%d sums of 0, want one", zeros)
	}
}

// P5.1, PutUDP: MaxData is of the whole message, its head too.
func TestPutUDPTooBig(t *testing.T) {
	if s, e := PutUDP(from, to, plainUDP(), textOf(1992, 1)); len(s) != 2000 || e != api.OK {
		t.Errorf("MaxData in all: %d bytes, %d", len(s), e)
	}
	for _, n := range []int{1993, 1994, 2000, 2001, 65527, 65528, 65535, 1 << 16, 1 << 20} {
		if s, e := PutUDP(from, to, plainUDP(), textOf(n, n)); s != "" || e != api.ErrBig {
			t.Errorf("body of %d: %d bytes, %d, want ErrBig alone", n, len(s), e)
		}
	}
}

// P5.1, PutUDP: a port that may not be is told ahead of a message that is too big.
func TestPutUDPOrder(t *testing.T) {
	for _, h := range []api.Dgram{{Src: -1}, {Src: 65536}, {Dst: -1}, {Dst: 65536}} {
		for _, n := range []int{0, 1992, 1993, 2001, 1 << 16} {
			if s, e := PutUDP(from, to, h, textOf(n, n)); s != "" || e != api.ErrArg {
				t.Errorf("%#v, body of %d: %d bytes, %d, want ErrArg alone", h, n, len(s), e)
			}
		}
	}
}

// P5.1, PutUDP: what a head of ICMP has is not looked at.
func TestPutUDPOtherFields(t *testing.T) {
	want := udpBytes(from, to, plainUDP(), "body")
	for _, v := range []int{1, -1, 255, 256, math.MinInt, math.MaxInt} {
		for _, other := range []api.Dgram{{Kind: v}, {Code: v}, {Rest: uint32(v)}, {Kind: v, Code: v, Rest: uint32(v)}} {
			other.Src, other.Dst = plainUDP().Src, plainUDP().Dst
			s, e := PutUDP(from, to, other, "body")
			if s != want || e != api.OK {
				t.Errorf("%#v: %q, %d", other, s, e)
			}
			if h, b, e := GetUDP(from, to, s); h != plainUDP() || b != "body" || e != api.OK {
				t.Errorf("%#v: got %#v, %q, %d", other, h, b, e)
			}
		}
	}
}

// P5.1, GetUDP: what is fewer than 8 bytes is short, whatever stands in it.
func TestGetUDPShort(t *testing.T) {
	good := udpBytes(from, to, plainUDP(), "body")
	for n := range 8 {
		own := with(good, 4, twoBytes(n))[:n]
		for _, s := range []string{good[:n], own, textOf(n, n), strings.Repeat("\x00", n), strings.Repeat("\xff", n)} {
			if h, b, e := GetUDP(from, to, s); !refused(h, b, e, api.ErrShort) {
				t.Errorf("%q: %#v, %q, %d, want ErrShort alone", s, h, b, e)
			}
		}
	}
	if h, b, e := GetUDP(from, to, udpBytes(from, to, plainUDP(), "")); h != plainUDP() || b != "" || e != api.OK {
		t.Errorf("8 bytes: %#v, %q, %d", h, b, e)
	}
}

// P5.1, GetUDP: of all lengths that a message may say, its own alone is right, though its sum be right.
func TestGetUDPLength(t *testing.T) {
	for _, n := range []int{8, 9, 12, 64} {
		s := with(textOf(n, n), 0, "\x12\x34\x56\x78")
		for v := range 1 << 16 {
			told := udpSummed(from, to, with(s, 4, twoBytes(v)))
			for _, x := range []string{told, with(told, 6, "\x00\x00")} {
				h, b, e := GetUDP(from, to, x)
				if v != n && !refused(h, b, e, api.ErrBytes) {
					t.Fatalf("%d bytes, %d said: %#v, %q, %d, want ErrBytes alone", n, v, h, b, e)
				}
				if v == n && (h != plainUDP() || b != s[8:] || e != api.OK) {
					t.Fatalf("%d bytes: %#v, %q, %d", n, h, b, e)
				}
			}
		}
	}
}

// P5.1, GetUDP: nothing may be missing, and nothing may stand behind.
func TestGetUDPCut(t *testing.T) {
	good := udpBytes(from, to, plainUDP(), textOf(40, 1))
	for n := 8; n < len(good); n++ {
		if h, b, e := GetUDP(from, to, good[:n]); !refused(h, b, e, api.ErrBytes) {
			t.Errorf("%d bytes: %#v, %q, %d, want ErrBytes alone", n, h, b, e)
		}
	}
	for _, behind := range []string{"\x00", "\x00\x00", "x", good} {
		if h, b, e := GetUDP(from, to, good+behind); !refused(h, b, e, api.ErrBytes) {
			t.Errorf("%d bytes behind: %#v, %q, %d, want ErrBytes alone", len(behind), h, b, e)
		}
	}
}

// P5.1, GetUDP: MaxData is of the whole message; what is longer than a length can say has another one.
func TestGetUDPTooBig(t *testing.T) {
	for _, n := range []int{1999, 2000} {
		body := textOf(n-8, n)
		if h, b, e := GetUDP(from, to, udpBytes(from, to, plainUDP(), body)); h != plainUDP() || b != body || e != api.OK {
			t.Errorf("%d bytes: %#v, %d bytes, %d", n, h, len(b), e)
		}
	}
	for _, n := range []int{2001, 2002, 2008, 2009, 32768, 65534, 65535} {
		s := udpBytes(from, to, plainUDP(), textOf(n-8, n))
		if h, b, e := GetUDP(from, to, s); !refused(h, b, e, api.ErrBig) {
			t.Errorf("%d bytes: %#v, %d bytes, %d, want ErrBig alone", n, h, len(b), e)
		}
	}
	for _, n := range []int{65536, 65536 + 8, 65536 + 100, 1 << 20} {
		s := udpBytes(from, to, plainUDP(), textOf(n-8, n))
		if h, b, e := GetUDP(from, to, s); !refused(h, b, e, api.ErrBytes) {
			t.Errorf("%d bytes: %#v, %d bytes, %d, want ErrBytes alone", n, h, len(b), e)
		}
	}
}

// P5.1, GetUDP: of all that may stand in a sum's place, the sum and two bytes 0 alone are right.
func TestGetUDPSum(t *testing.T) {
	for _, body := range []string{"", "body", "odd", "\xff\xda"} {
		good := udpBytes(0, to, plainUDP(), body)
		for v := range 1 << 16 {
			s := with(good, 6, twoBytes(v))
			h, b, e := GetUDP(0, to, s)
			right := s == good || v == 0
			if !right && !refused(h, b, e, api.ErrSum) {
				t.Fatalf("%#x: %#v, %q, %d, want ErrSum alone", v, h, b, e)
			}
			if right && (h != plainUDP() || b != body || e != api.OK) {
				t.Fatalf("%#x: %#v, %q, %d", v, h, b, e)
			}
		}
	}
}

// P5.1, GetUDP: a sum that stands there as two bytes 0 is right, whatever the rest is; one byte 0 is not.
func TestGetUDPNoSum(t *testing.T) {
	for _, h := range udpHeads() {
		for _, body := range bodies() {
			s := with(udpBytes(from, to, h, body), 6, "\x00\x00")
			for _, x := range [][2]uint32{{from, to}, {0, 0}, {math.MaxUint32, 1}} {
				if got, b, e := GetUDP(x[0], x[1], s); got != h || b != body || e != api.OK {
					t.Fatalf("%#v, body of %d: %#v, %d bytes, %d", h, len(body), got, len(b), e)
				}
			}
		}
	}
	for _, w := range []string{"\x00\x01", "\x01\x00", "\x00\xff", "\xff\x00", "\x80\x00"} {
		s := with(udpBytes(from, to, plainUDP(), "body"), 6, w)
		if h, b, e := GetUDP(from, to, s); !refused(h, b, e, api.ErrSum) {
			t.Errorf("%q: %#v, %q, %d, want ErrSum alone", w, h, b, e)
		}
	}
	for _, x := range []struct {
		s    string
		want api.Errno
	}{
		{"\x00\x00\x00\x00\x00\x07\x00", api.ErrShort},
		{"\x00\x00\x00\x00\x00\x07\x00\x00", api.ErrBytes},
		{"\x00\x00\x00\x00\x00\x00\x00\x00", api.ErrBytes},
		{with(strings.Repeat("\x00", 2001), 4, twoBytes(2001)), api.ErrBig},
	} {
		if h, b, e := GetUDP(from, to, x.s); !refused(h, b, e, x.want) {
			t.Errorf("%d bytes without a sum: %#v, %d bytes, %d, want %d alone", len(x.s), h, len(b), e, x.want)
		}
	}
}

// P5.1, GetUDP: the sum is of both addresses, of 17, of how many bytes there are, and of all of these.
func TestGetUDPSumOfWhat(t *testing.T) {
	good := udpBytes(from, to, plainUDP(), "body")
	for bit := range 32 {
		if h, b, e := GetUDP(from^1<<bit, to, good); !refused(h, b, e, api.ErrSum) {
			t.Errorf("bit %d of src: %#v, %q, %d, want ErrSum alone", bit, h, b, e)
		}
		if h, b, e := GetUDP(from, to^1<<bit, good); !refused(h, b, e, api.ErrSum) {
			t.Errorf("bit %d of dst: %#v, %q, %d, want ErrSum alone", bit, h, b, e)
		}
	}
	v := udpSum(from, to, with(good, 6, "\x00\x00"))
	for _, x := range []struct {
		name string
		sum  int
	}{
		{"6 for 17", v + 11},
		{"1 for 17", v + 16},
		{"without how many bytes", v + 12},
		{"of the message alone", sumOf(with(good, 6, "\x00\x00"))},
		{"not turned", 65535 - v},
	} {
		if h, b, e := GetUDP(from, to, with(good, 6, twoBytes(x.sum))); !refused(h, b, e, api.ErrSum) {
			t.Errorf("%s: %#v, %q, %d, want ErrSum alone", x.name, h, b, e)
		}
	}
}

// P5.1, GetUDP: every bit of the ports and of the body is summed.
func TestGetUDPTurned(t *testing.T) {
	for _, body := range []string{"x", "\x00", "\xff\xff", textOf(41, 1), textOf(64, 2), textOf(1991, 3), textOf(1992, 4)} {
		s := udpBytes(from, to, plainUDP(), body)
		for i := range len(s) {
			for bit := range 8 {
				if i >= 6 && i < 8 {
					continue // every sum has a test of its own
				}
				want := api.ErrSum
				if i == 4 || i == 5 {
					want = api.ErrBytes
				}
				h, b, e := GetUDP(from, to, with(s, i, string([]byte{s[i] ^ 1<<bit})))
				if !refused(h, b, e, want) {
					t.Fatalf("body of %d, byte %d, bit %d: %#v, %d bytes, %d, want %d alone", len(body), i, bit, h, len(b), e, want)
				}
			}
		}
	}
}

// P5.1, GetUDP: a byte of a message is told in one field, at one place.
func TestGetUDPEachByte(t *testing.T) {
	for _, x := range []struct {
		at   int
		want api.Dgram
		body string
	}{
		{0, api.Dgram{Src: 0x2500}, "\x00\x00"}, {1, api.Dgram{Src: 0x25}, "\x00\x00"},
		{2, api.Dgram{Dst: 0x2500}, "\x00\x00"}, {3, api.Dgram{Dst: 0x25}, "\x00\x00"},
		{8, api.Dgram{}, "\x25\x00"}, {9, api.Dgram{}, "\x00\x25"},
	} {
		s := with("\x00\x00\x00\x00\x00\x0a\x00\x00\x00\x00", x.at, "\x25")
		if h, b, e := GetUDP(from, to, udpSummed(from, to, s)); h != x.want || b != x.body || e != api.OK {
			t.Errorf("byte %d: %#v, %q, %d", x.at, h, b, e)
		}
	}
}

// P5.1, GetUDP: where two errors apply, the one that the chapter names first is told.
func TestGetUDPOrder(t *testing.T) {
	good := udpBytes(from, to, plainUDP(), "body")
	big := udpBytes(from, to, plainUDP(), textOf(1993, 1))
	for _, x := range []struct {
		name string
		s    string
		want api.Errno
	}{
		{"7 bytes, fewer than 8 said", with(good, 4, "\x00\x07")[:7], api.ErrShort},
		{"7 bytes, another number said", good[:7], api.ErrShort},
		{"fewer than 8 said, the sum", with(good, 4, "\x00\x07"), api.ErrBytes},
		{"fewer than 8 said, too big", with(big, 4, "\x00\x07"), api.ErrBytes},
		{"one fewer said, too big", with(big, 4, twoBytes(2000)), api.ErrBytes},
		{"one more said, too big", with(big, 4, twoBytes(2002)), api.ErrBytes},
		{"another number said, too big, its sum right", udpSummed(from, to, with(big, 4, twoBytes(2000))), api.ErrBytes},
		{"another number said, the sum", with(good, 4, "\x00\x0d"), api.ErrBytes},
		{"too big", big, api.ErrBig},
		{"too big, the sum", with(big, 8, "zzzz"), api.ErrBig},
		{"too big, no sum", with(big, 6, "\x00\x00"), api.ErrBig},
		{"the sum", with(good, 8, "zzzz"), api.ErrSum},
	} {
		if h, b, e := GetUDP(from, to, x.s); !refused(h, b, e, x.want) {
			t.Errorf("%s: %#v, %d bytes, %d, want %d alone", x.name, h, len(b), e, x.want)
		}
	}
}

// P5.2, PutICMP: messages written out, their sums among their bytes.
func TestPutICMPWrittenOut(t *testing.T) {
	for _, x := range []struct {
		h    api.Dgram
		body string
		want string
	}{
		{api.Dgram{}, "", "\x00\x00\xff\xff\x00\x00\x00\x00"},
		// 0x0801, 0x1234, 0x5678 and 'b' as the upper half of a word: 0xd2ad.
		{api.Dgram{Kind: 8, Code: 1, Rest: 0x12345678}, "b", "\x08\x01\x2d\x52\x12\x34\x56\x78b"},
		// 0x0303 and 0xfcfc: 0xffff, so the sum is 0, and is told so.
		{api.Dgram{Kind: 3, Code: 3}, "\xfc\xfc", "\x03\x03\x00\x00\x00\x00\x00\x00\xfc\xfc"},
		{api.Dgram{Kind: 255, Code: 255}, "", "\xff\xff\x00\x00\x00\x00\x00\x00"},
		// 0x0303 and 0xfcfd: 0x10000, which is 1.
		{api.Dgram{Kind: 3, Code: 3}, "\xfc\xfd", "\x03\x03\xff\xfe\x00\x00\x00\x00\xfc\xfd"},
	} {
		if s, e := PutICMP(x.h, x.body); s != x.want || e != api.OK {
			t.Errorf("%#v, %q: %q, %d, want %q", x.h, x.body, s, e, x.want)
		}
	}
}

// P5.2, PutICMP: the bytes of every head that may be, with bodies up to MaxData in all.
func TestPutICMP(t *testing.T) {
	for _, h := range icmpHeads() {
		for _, body := range bodies() {
			if s, e := PutICMP(h, body); s != icmpBytes(h, body) || e != api.OK {
				t.Errorf("%#v, body of %d: %d bytes, %d", h, len(body), len(s), e)
			}
		}
	}
}

// P5.2, PutICMP: every Kind and every Code about what it may be, beside each other.
func TestPutICMPKindsAndCodes(t *testing.T) {
	values := []int{math.MinInt, math.MaxInt, -255, -256, -257, 65535, 65536, 1 << 32, 1<<32 + 8}
	for v := -20; v < 300; v++ {
		values = append(values, v)
	}
	for _, kind := range values {
		for _, code := range values {
			h := api.Dgram{Kind: kind, Code: code}
			s, e := PutICMP(h, "b")
			may := 0 <= kind && kind <= 255 && 0 <= code && code <= 255
			if may && (s != icmpBytes(h, "b") || e != api.OK) {
				t.Fatalf("%#v: %q, %d", h, s, e)
			}
			if !may && (s != "" || e != api.ErrArg) {
				t.Fatalf("%#v: %q, %d, want ErrArg alone", h, s, e)
			}
		}
	}
}

// P5.2, PutICMP: every sum is told as it is, 0 too.
func TestPutICMPEverySum(t *testing.T) {
	zeros := 0
	for v := range 1 << 16 {
		body := twoBytes(v)
		s, e := PutICMP(plainICMP(), body)
		if s != icmpBytes(plainICMP(), body) || e != api.OK {
			t.Fatalf("%q: %q, %d", body, s, e)
		}
		if s[2:4] == "\x00\x00" {
			zeros++
		}
		if h, b, e := GetICMP(s); h != plainICMP() || b != body || e != api.OK {
			t.Fatalf("%q: %#v, %q, %d", body, h, b, e)
		}
	}
	if zeros != 1 {
		t.Errorf("%d sums of 0, want one", zeros)
	}
}

// P5.2, PutICMP: MaxData is of the whole message, its head too.
func TestPutICMPTooBig(t *testing.T) {
	if s, e := PutICMP(plainICMP(), textOf(1992, 1)); len(s) != 2000 || e != api.OK {
		t.Errorf("MaxData in all: %d bytes, %d", len(s), e)
	}
	for _, n := range []int{1993, 1994, 2000, 2001, 65535, 1 << 16, 1 << 20} {
		if s, e := PutICMP(plainICMP(), textOf(n, n)); s != "" || e != api.ErrBig {
			t.Errorf("body of %d: %d bytes, %d, want ErrBig alone", n, len(s), e)
		}
	}
}

// P5.2, PutICMP: a Kind or Code that may not be is told ahead of a message that is too big.
func TestPutICMPOrder(t *testing.T) {
	for _, h := range []api.Dgram{{Kind: -1}, {Kind: 256}, {Code: -1}, {Code: 256}} {
		for _, n := range []int{0, 1992, 1993, 2001, 1 << 16} {
			if s, e := PutICMP(h, textOf(n, n)); s != "" || e != api.ErrArg {
				t.Errorf("%#v, body of %d: %d bytes, %d, want ErrArg alone", h, n, len(s), e)
			}
		}
	}
}

// P5.2, PutICMP: what a head of UDP has is not looked at.
func TestPutICMPOtherFields(t *testing.T) {
	want := icmpBytes(plainICMP(), "body")
	for _, v := range []int{1, -1, 65535, 65536, math.MinInt, math.MaxInt} {
		for _, other := range []api.Dgram{{Src: v}, {Dst: v}, {Src: v, Dst: v}} {
			h := plainICMP()
			h.Src, h.Dst = other.Src, other.Dst
			s, e := PutICMP(h, "body")
			if s != want || e != api.OK {
				t.Errorf("%#v: %q, %d", h, s, e)
			}
			if got, b, e := GetICMP(s); got != plainICMP() || b != "body" || e != api.OK {
				t.Errorf("%#v: got %#v, %q, %d", h, got, b, e)
			}
		}
	}
}

// P5.2, GetICMP: what is fewer than 8 bytes is short, whatever stands in it.
func TestGetICMPShort(t *testing.T) {
	good := icmpBytes(plainICMP(), "body")
	for n := range 8 {
		texts := []string{good[:n], textOf(n, n), strings.Repeat("\x00", n), strings.Repeat("\xff", n)}
		if n >= 4 {
			texts = append(texts, icmpSummed(good[:n]))
		}
		for _, s := range texts {
			if h, b, e := GetICMP(s); !refused(h, b, e, api.ErrShort) {
				t.Errorf("%q: %#v, %q, %d, want ErrShort alone", s, h, b, e)
			}
		}
	}
	if h, b, e := GetICMP(icmpBytes(plainICMP(), "")); h != plainICMP() || b != "" || e != api.OK {
		t.Errorf("8 bytes: %#v, %q, %d", h, b, e)
	}
}

// P5.2, GetICMP: MaxData is of the whole message; a sum is not looked at beyond it.
func TestGetICMPTooBig(t *testing.T) {
	for _, n := range []int{1999, 2000} {
		body := textOf(n-8, n)
		if h, b, e := GetICMP(icmpBytes(plainICMP(), body)); h != plainICMP() || b != body || e != api.OK {
			t.Errorf("%d bytes: %#v, %d bytes, %d", n, h, len(b), e)
		}
	}
	for _, n := range []int{2001, 2002, 2008, 2009, 65535, 65536, 1 << 20} {
		s := icmpBytes(plainICMP(), textOf(n-8, n))
		wrong := with(s, 8, string([]byte{s[8] ^ 1}))
		for _, x := range []string{s, wrong} {
			if h, b, e := GetICMP(x); !refused(h, b, e, api.ErrBig) {
				t.Errorf("%d bytes: %#v, %d bytes, %d, want ErrBig alone", n, h, len(b), e)
			}
		}
	}
}

// P5.2, GetICMP: of all that may stand in a sum's place, one sum is right; two bytes 0 are no other sum than they say.
func TestGetICMPSum(t *testing.T) {
	for _, body := range []string{"", "body", "odd"} {
		good := icmpBytes(plainICMP(), body)
		for v := range 1 << 16 {
			s := with(good, 2, twoBytes(v))
			h, b, e := GetICMP(s)
			if s != good && !refused(h, b, e, api.ErrSum) {
				t.Fatalf("%#x: %#v, %q, %d, want ErrSum alone", v, h, b, e)
			}
			if s == good && (h != plainICMP() || b != body || e != api.OK) {
				t.Fatalf("%#x: %#v, %q, %d", v, h, b, e)
			}
		}
	}
	zero := "\x03\x03\x00\x00\x00\x00\x00\x00\xfc\xfc"
	for _, s := range []string{zero, with(zero, 2, "\xff\xff")} {
		if h, b, e := GetICMP(s); h != (api.Dgram{Kind: 3, Code: 3}) || b != "\xfc\xfc" || e != api.OK {
			t.Errorf("%q: %#v, %q, %d", s, h, b, e)
		}
	}
	if h, b, e := GetICMP(strings.Repeat("\x00", 8)); !refused(h, b, e, api.ErrSum) {
		t.Errorf("8 bytes 0: %#v, %q, %d, want ErrSum alone", h, b, e)
	}
}

// P5.2, GetICMP: every bit of a message is summed.
func TestGetICMPTurned(t *testing.T) {
	for _, body := range []string{"", "x", "\x00", "\xff\xff", textOf(41, 1), textOf(64, 2), textOf(1991, 3), textOf(1992, 4)} {
		s := icmpBytes(plainICMP(), body)
		for i := range len(s) {
			for bit := range 8 {
				h, b, e := GetICMP(with(s, i, string([]byte{s[i] ^ 1<<bit})))
				if !refused(h, b, e, api.ErrSum) {
					t.Fatalf("body of %d, byte %d, bit %d: %#v, %d bytes, %d, want ErrSum alone", len(body), i, bit, h, len(b), e)
				}
			}
		}
	}
}

// P5.2, GetICMP: a byte of a message is told in one field, at one place.
func TestGetICMPEachByte(t *testing.T) {
	for _, x := range []struct {
		at   int
		want api.Dgram
		body string
	}{
		{0, api.Dgram{Kind: 0x25}, "\x00\x00"}, {1, api.Dgram{Code: 0x25}, "\x00\x00"},
		{4, api.Dgram{Rest: 0x25000000}, "\x00\x00"}, {5, api.Dgram{Rest: 0x250000}, "\x00\x00"},
		{6, api.Dgram{Rest: 0x2500}, "\x00\x00"}, {7, api.Dgram{Rest: 0x25}, "\x00\x00"},
		{8, api.Dgram{}, "\x25\x00"}, {9, api.Dgram{}, "\x00\x25"},
	} {
		s := with(strings.Repeat("\x00", 10), x.at, "\x25")
		if h, b, e := GetICMP(icmpSummed(s)); h != x.want || b != x.body || e != api.OK {
			t.Errorf("byte %d: %#v, %q, %d", x.at, h, b, e)
		}
	}
}

// P5.3: what is put is got, by any addresses.
func TestPutIsGot(t *testing.T) {
	for _, body := range bodies() {
		for _, h := range udpHeads() {
			for _, x := range [][2]uint32{{from, to}, {0, 0}, {math.MaxUint32, math.MaxUint32}, {1 << 31, 1}} {
				s, _ := PutUDP(x[0], x[1], h, body)
				if got, b, e := GetUDP(x[0], x[1], s); got != h || b != body || e != api.OK {
					t.Fatalf("UDP, %#v, body of %d: %#v, %d bytes, %d", h, len(body), got, len(b), e)
				}
			}
		}
		for _, h := range icmpHeads() {
			s, _ := PutICMP(h, body)
			if got, b, e := GetICMP(s); got != h || b != body || e != api.OK {
				t.Fatalf("ICMP, %#v, body of %d: %#v, %d bytes, %d", h, len(body), got, len(b), e)
			}
		}
	}
}

// P5.3: at every length of body.
func TestPutIsGotAtEveryLength(t *testing.T) {
	for n := range 1993 {
		body := textOf(n, n)
		h := api.Dgram{Src: n, Dst: 65535 - n}
		s, e := PutUDP(from, to, h, body)
		if e != api.OK || len(s) != 8+n {
			t.Fatalf("UDP, body of %d: %d bytes, %d", n, len(s), e)
		}
		if got, b, e := GetUDP(from, to, s); got != h || b != body || e != api.OK {
			t.Fatalf("UDP, body of %d: %#v, %d bytes, %d", n, got, len(b), e)
		}
		h = api.Dgram{Kind: n % 256, Code: n / 8, Rest: uint32(n) * 2654435761}
		s, e = PutICMP(h, body)
		if e != api.OK || len(s) != 8+n {
			t.Fatalf("ICMP, body of %d: %d bytes, %d", n, len(s), e)
		}
		if got, b, e := GetICMP(s); got != h || b != body || e != api.OK {
			t.Fatalf("ICMP, body of %d: %#v, %d bytes, %d", n, got, len(b), e)
		}
	}
}

// R1: bytes of no kind at all are answered; what is refused answers nothing else, and what is got is that which would be put.
func TestGetAnything(t *testing.T) {
	for seed := range 20000 {
		s := textOf(seed%90, seed)
		if seed%2 == 0 && len(s) >= 8 {
			s = udpSummed(from, to, with(s, 4, twoBytes(len(s))))
		}
		h, b, e := GetUDP(from, to, s)
		again, _ := PutUDP(from, to, h, b)
		if e != api.OK && !refused(h, b, e, e) || e == api.OK && again != s {
			t.Fatalf("UDP, %q: %#v, %q, %d", s, h, b, e)
		}
		if seed%2 == 0 && len(s) >= 8 {
			s = icmpSummed(s)
		}
		h, b, e = GetICMP(s)
		again, _ = PutICMP(h, b)
		if e != api.OK && !refused(h, b, e, e) || e == api.OK && again != s {
			t.Fatalf("ICMP, %q: %#v, %q, %d", s, h, b, e)
		}
	}
}
