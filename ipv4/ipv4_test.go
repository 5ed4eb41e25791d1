package ipv4

import (
	"math"
	"strings"
	"testing"

	"rampart/api"
)

// textOf is n bytes that look like nothing in particular, the same ones each time.
func textOf(n, seed int) string {
	b := make([]byte, n)
	x := uint32(seed)*2654435761 + 12345
	for i := range b {
		x = x*1664525 + 1013904223
		b[i] = byte(x >> 24)
	}
	return string(b)
}

// plain is a head whose fields differ all from each other.
func plain() api.IP {
	return api.IP{Tos: 0x12, ID: 0x3456, Off: 0x1d0, TTL: 0x40, Proto: 6, Src: 0x0a010203, Dst: 0xc0a880fe}
}

// sumOf is the sum of a head, worked out word by word, without package sum.
func sumOf(head []byte) int {
	v := 0
	for i := 0; i < len(head); i += 2 {
		v += int(head[i])<<8 + int(head[i+1])
		if v > 65535 {
			v -= 65535
		}
	}
	return 65535 - v
}

// bytesOf is a datagram, written down byte by byte as the chapter tells it.
func bytesOf(h api.IP, body string) string {
	head := 20 + len(h.Opts)
	all := head + len(body)
	cut := h.Off / 8
	if h.Keep {
		cut += 16384
	}
	if h.More {
		cut += 8192
	}
	b := []byte{byte(64 + head/4), byte(h.Tos), byte(all / 256), byte(all % 256), byte(h.ID / 256), byte(h.ID % 256), byte(cut / 256), byte(cut % 256), byte(h.TTL), byte(h.Proto), 0, 0,
		byte(h.Src >> 24), byte(h.Src >> 16), byte(h.Src >> 8), byte(h.Src), byte(h.Dst >> 24), byte(h.Dst >> 16), byte(h.Dst >> 8), byte(h.Dst)}
	b = append(b, h.Opts...)
	return summed(string(b)) + body
}

// summed is bytes with the sum of the head they say they have put right.
func summed(s string) string {
	b := []byte(s)
	n := min(len(b), 4*int(b[0]&15))
	b[10], b[11] = 0, 0
	v := sumOf(b[:n])
	b[10], b[11] = byte(v>>8), byte(v)
	return string(b)
}

// with is bytes with others at a place.
func with(s string, at int, w string) string {
	return s[:at] + w + s[at+len(w):]
}

// headsThatMayBe are heads with each field at its first and last places.
func headsThatMayBe() []api.IP {
	heads := []api.IP{{}, plain()}
	for _, v := range []int{1, 127, 128, 254, 255} {
		heads = append(heads, api.IP{Tos: v}, api.IP{TTL: v}, api.IP{Proto: v})
	}
	for _, v := range []int{1, 255, 256, 32768, 65534, 65535} {
		heads = append(heads, api.IP{ID: v})
	}
	for _, v := range []int{8, 2040, 2048, 32768, 65520, 65528} {
		heads = append(heads, api.IP{Off: v}, api.IP{Off: v, More: true}, api.IP{Off: v, Keep: true}, api.IP{Off: v, More: true, Keep: true})
	}
	for _, v := range []uint32{1, 0x80000000, 0xffffffff, 0x01020304} {
		heads = append(heads, api.IP{Src: v}, api.IP{Dst: v})
	}
	for n := 0; n <= 40; n += 4 {
		h := plain()
		h.Opts = textOf(n, n)
		heads = append(heads, h, api.IP{Opts: strings.Repeat("\x00", n)}, api.IP{Opts: strings.Repeat("\xff", n)})
	}
	last := api.IP{Tos: 255, ID: 65535, More: true, Keep: true, Off: 65528, TTL: 255, Proto: 255, Src: math.MaxUint32, Dst: math.MaxUint32, Opts: strings.Repeat("\xff", 40)}
	return append(heads, api.IP{More: true}, api.IP{Keep: true}, api.IP{More: true, Keep: true}, last)
}

// headsThatMayNot are heads with one field beyond what it may be.
func headsThatMayNot() []api.IP {
	var heads []api.IP
	for _, v := range []int{-1, -256, 256, 257, 65536, math.MinInt, math.MaxInt} {
		heads = append(heads, api.IP{Tos: v}, api.IP{TTL: v}, api.IP{Proto: v})
	}
	for _, v := range []int{-1, -65536, 65536, 1 << 32, math.MinInt, math.MaxInt} {
		heads = append(heads, api.IP{ID: v})
	}
	for _, v := range []int{-1, -8, -65536, 1, 4, 7, 9, 65527, 65529, 65535, 65536, 1 << 32, math.MinInt, math.MaxInt, math.MaxInt - 7} {
		heads = append(heads, api.IP{Off: v})
	}
	for _, n := range []int{1, 2, 3, 5, 37, 38, 39, 41, 42, 43, 44, 48, 64, 256, 1 << 16} {
		heads = append(heads, api.IP{Opts: textOf(n, n)})
	}
	return heads
}

// bodiesThatFit are bodies of a datagram that is not too big.
func bodiesThatFit() []string {
	return []string{"", "x", "\x00", "\xff\xfe\xfd", textOf(236, 1), textOf(1480, 2), textOf(api.MaxData-1, 3), textOf(api.MaxData, 4)}
}

// refused tells whether all but the error is zero.
func refused(h api.IP, body string, e, want api.Errno) bool {
	return h == (api.IP{}) && body == "" && e == want
}

// P3.1, Check: each field at its first and last places, and one beyond.
func TestCheck(t *testing.T) {
	for _, h := range headsThatMayBe() {
		if !Check(h) {
			t.Errorf("no to %+v", h)
		}
	}
	for _, h := range headsThatMayNot() {
		if Check(h) {
			t.Errorf("yes to %+v", h)
		}
	}
}

// P3.1, Check: every number about what a field may be, every length of Opts.
func TestCheckEveryNumber(t *testing.T) {
	for v := -300; v < 66000; v++ {
		for _, x := range []struct {
			name string
			h    api.IP
			want bool
		}{
			{"Tos", api.IP{Tos: v}, v >= 0 && v <= 255},
			{"TTL", api.IP{TTL: v}, v >= 0 && v <= 255},
			{"Proto", api.IP{Proto: v}, v >= 0 && v <= 255},
			{"ID", api.IP{ID: v}, v >= 0 && v <= 65535},
			{"Off", api.IP{Off: v}, v >= 0 && v <= 65528 && v%8 == 0},
		} {
			if Check(x.h) != x.want {
				t.Fatalf("%s %d: want %v", x.name, v, x.want)
			}
		}
	}
	for n := range 100 {
		if want := n <= 40 && n%4 == 0; Check(api.IP{Opts: textOf(n, n)}) != want {
			t.Errorf("Opts of %d: want %v", n, want)
		}
	}
}

// P3.1, Put: a datagram written out, its sum among its bytes.
func TestPutWrittenOut(t *testing.T) {
	for _, x := range []struct {
		h    api.IP
		body string
		want string
	}{
		{api.IP{}, "", "\x45\x00\x00\x14\x00\x00\x00\x00\x00\x00\xba\xeb\x00\x00\x00\x00\x00\x00\x00\x00"},
		{api.IP{ID: 0x1c46, Keep: true, TTL: 64, Proto: 6, Src: 0xac100a63, Dst: 0xac100a0c}, strings.Repeat("b", 40), "\x45\x00\x00\x3c\x1c\x46\x40\x00\x40\x06\xb1\xe6\xac\x10\x0a\x63\xac\x10\x0a\x0c" + strings.Repeat("b", 40)},
		{api.IP{Tos: 1, More: true, Off: 8, TTL: 2, Proto: 3, Src: 4, Dst: 5, Opts: "\x00\x01\x00\x02"}, "b", "\x46\x01\x00\x19\x00\x00\x20\x01\x02\x03\x97\xd5\x00\x00\x00\x04\x00\x00\x00\x05\x00\x01\x00\x02b"},
	} {
		if s, e := Put(x.h, x.body); s != x.want || e != api.OK {
			t.Errorf("%+v: %q, %d", x.h, s, e)
		}
	}
}

// P3.1, Put: the bytes of every head that may be, with bodies up to MaxData.
func TestPut(t *testing.T) {
	for _, h := range headsThatMayBe() {
		for _, body := range bodiesThatFit() {
			if s, e := Put(h, body); s != bytesOf(h, body) || e != api.OK {
				t.Errorf("%+v, body of %d: %d bytes, %d", h, len(body), len(s), e)
			}
		}
	}
}

// P3.1, Put: a head that may not be is told ahead of a body that is too big, and nothing is put.
func TestPutRefused(t *testing.T) {
	for _, h := range headsThatMayNot() {
		for _, n := range []int{0, 1, api.MaxData, api.MaxData + 1} {
			if s, e := Put(h, textOf(n, n)); s != "" || e != api.ErrArg {
				t.Errorf("%+v, body of %d: %d bytes, %d, want ErrArg alone", h, n, len(s), e)
			}
		}
	}
	for _, n := range []int{api.MaxData + 1, api.MaxData + 2, 65515, 65516, 1 << 16, 1 << 20} {
		if s, e := Put(plain(), textOf(n, n)); s != "" || e != api.ErrBig {
			t.Errorf("body of %d: %d bytes, %d, want ErrBig alone", n, len(s), e)
		}
	}
}

// P3.2, Get: what is fewer than 20 bytes is short, whatever stands in it.
func TestGetShort(t *testing.T) {
	good := bytesOf(plain(), "body")
	for n := range 20 {
		for _, s := range []string{good[:n], textOf(n, n), strings.Repeat("\x00", n), strings.Repeat("\xff", n)} {
			if h, b, e := Get(s); !refused(h, b, e, api.ErrShort) {
				t.Errorf("%q: %+v, %q, %d, want ErrShort alone", s, h, b, e)
			}
		}
	}
	if h, b, e := Get(bytesOf(plain(), "")); h != plain() || b != "" || e != api.OK {
		t.Errorf("20 bytes: %+v, %q, %d", h, b, e)
	}
}

// P3.2, Get: every first byte; a head that is longer than the bytes is told behind a first byte that is wrong.
func TestGetFirstByte(t *testing.T) {
	rest := string([]byte{0, 0, 20}) + strings.Repeat("\x00", 16)
	for v := range 256 {
		s := summed(string([]byte{byte(v)}) + rest)
		want := api.OK
		if v>>4 != 4 || v&15 < 5 {
			want = api.ErrBytes
		} else if v&15 > 5 {
			want = api.ErrShort
		}
		if h, b, e := Get(s); e != want || h != (api.IP{}) || b != "" {
			t.Errorf("%#x: %+v, %q, %d, want %d", v, h, b, e, want)
		}
	}
}

// P3.2, Get: bytes that end within the head, within the body, or at its end.
func TestGetCut(t *testing.T) {
	for _, size := range []int{0, 4, 8, 36, 40} {
		h := plain()
		h.Opts = textOf(size, size)
		good := bytesOf(h, "a body")
		for n := range good {
			if h, b, e := Get(good[:n]); !refused(h, b, e, api.ErrShort) {
				t.Errorf("Opts of %d, cut at %d: %+v, %q, %d, want ErrShort alone", size, n, h, b, e)
			}
		}
		if got, b, e := Get(good); got != h || b != "a body" || e != api.OK {
			t.Errorf("Opts of %d: %+v, %q, %d", size, got, b, e)
		}
	}
}

// P3.2, Get: every number of bytes in all, beside what the head has and what is there.
func TestGetInAll(t *testing.T) {
	const there = 28 + 2500
	for _, size := range []int{0, 8, 40} {
		h := plain()
		h.Opts = textOf(size, size)
		long := bytesOf(h, "") + textOf(there-20-size, size)
		for all := range 1 << 16 {
			s := summed(with(long, 2, string([]byte{byte(all >> 8), byte(all)})))
			want := api.OK
			switch {
			case all < 20+size:
				want = api.ErrBytes
			case all > there:
				want = api.ErrShort
			case all-20-size > 2000:
				want = api.ErrBig
			}
			got, b, e := Get(s)
			if want != api.OK && !refused(got, b, e, want) {
				t.Fatalf("Opts of %d, %d in all: %+v, %d bytes, %d, want %d alone", size, all, got, len(b), e, want)
			}
			if want == api.OK && (got != h || b != s[20+size:all] || e != api.OK) {
				t.Fatalf("Opts of %d, %d in all: %+v, %d bytes, %d", size, all, got, len(b), e)
			}
		}
	}
}

// P3.2, Get: every cutting word.
func TestGetCuttingWord(t *testing.T) {
	good := bytesOf(plain(), "b")
	for v := range 1 << 16 {
		want := plain()
		want.Keep, want.More, want.Off = v&16384 != 0, v&8192 != 0, v%8192*8
		h, b, e := Get(summed(with(good, 6, string([]byte{byte(v >> 8), byte(v)}))))
		if v >= 32768 && !refused(h, b, e, api.ErrBytes) {
			t.Fatalf("%#x: %+v, %q, %d, want ErrBytes alone", v, h, b, e)
		}
		if v < 32768 && (h != want || b != "b" || e != api.OK) {
			t.Fatalf("%#x: %+v, %q, %d", v, h, b, e)
		}
	}
}

// P3.2, Get: one bit of a head turned round is a wrong sum, if it is nothing worse; the body has no sum.
func TestGetSum(t *testing.T) {
	h := plain()
	h.Opts = textOf(8, 8)
	good := bytesOf(h, "body")
	for i := range good {
		for bit := range 8 {
			s := with(good, i, string([]byte{good[i] ^ 1<<bit}))
			got, b, e := Get(s)
			switch {
			case i >= 28:
				if got != h || b != s[28:] || e != api.OK {
					t.Errorf("byte %d, bit %d: %+v, %q, %d", i, bit, got, b, e)
				}
			case i > 3 && !(i == 6 && bit == 7):
				if !refused(got, b, e, api.ErrSum) {
					t.Errorf("byte %d, bit %d: %+v, %q, %d, want ErrSum alone", i, bit, got, b, e)
				}
			default:
				if e == api.OK || !refused(got, b, e, e) {
					t.Errorf("byte %d, bit %d: %+v, %q, %d", i, bit, got, b, e)
				}
			}
		}
	}
	if got, b, e := Get(with(good, 10, "\x00\x00")); !refused(got, b, e, api.ErrSum) {
		t.Errorf("no sum: %+v, %q, %d", got, b, e)
	}
}

// P3.2, Get: the sum is of the whole head, options too, and of nothing behind it.
func TestGetSumOfOptions(t *testing.T) {
	h := plain()
	h.Opts = "abcd"
	good := bytesOf(h, "body")
	short := []byte(good)
	short[10], short[11] = 0, 0
	v := sumOf(short[:20])
	if got, b, e := Get(with(good, 10, string([]byte{byte(v >> 8), byte(v)}))); !refused(got, b, e, api.ErrSum) {
		t.Errorf("the sum of 20 bytes of 24: %+v, %q, %d", got, b, e)
	}
	if got, b, e := Get(with(good, 20, "cdab")); got.Opts != "cdab" || b != "body" || e != api.OK {
		t.Errorf("words of one sum: %+v, %q, %d", got, b, e)
	}
}

// P3.2: where two errors apply, the one that is ahead in the order is told.
func TestGetOrder(t *testing.T) {
	h := plain()
	h.Opts = "abcd"
	good := bytesOf(h, "body") // a head of 24, 28 in all
	big := summed(with(good[:24], 2, "\x07\xe9") + textOf(2001, 1))
	for _, x := range []struct {
		name string
		s    string
		want api.Errno
	}{
		{"fewer than 20, a wrong first byte", with(good, 0, "\x56")[:19], api.ErrShort},
		{"fewer than 20, in all too few", with(good, 2, "\x00\x00")[:19], api.ErrShort},
		{"a wrong first byte, shorter than its head", with(good, 0, "\x5f"), api.ErrBytes},
		{"a lower half of 4, shorter than in all", with(good, 0, "\x44")[:20], api.ErrBytes},
		{"shorter than its head, in all too few", with(good, 2, "\x00\x17")[:23], api.ErrShort},
		{"shorter than its head, the bit", with(good, 6, "\x80")[:23], api.ErrShort},
		{"in all too few, the bit, the sum", with(with(good, 2, "\x00\x17"), 6, "\x80"), api.ErrBytes},
		{"in all too few, bytes enough for neither", with(good, 2, "\x00\x00")[:24], api.ErrBytes},
		{"shorter than in all, the bit", with(good, 6, "\x80")[:27], api.ErrShort},
		{"shorter than in all, too big", big[:2024], api.ErrShort},
		{"shorter than in all, the sum", with(good, 8, "\x00")[:27], api.ErrShort},
		{"the bit, too big", with(big, 6, "\x80"), api.ErrBytes},
		{"the bit, too big, its sum right", summed(with(big, 6, "\x80")), api.ErrBytes},
		{"the bit, the sum", with(good, 6, "\x80"), api.ErrBytes},
		{"too big", big, api.ErrBig},
		{"too big, the sum", with(big, 8, "\x00"), api.ErrBig},
		{"the sum", with(good, 8, "\x00"), api.ErrSum},
	} {
		if h, b, e := Get(x.s); !refused(h, b, e, x.want) {
			t.Errorf("%s: %+v, %d bytes, %d, want %d alone", x.name, h, len(b), e, x.want)
		}
	}
}

// P3.3: what is put is got, whatever stands behind it, also more than a datagram may carry.
func TestPutIsGot(t *testing.T) {
	for _, h := range headsThatMayBe() {
		for _, body := range bodiesThatFit() {
			s, _ := Put(h, body)
			for _, behind := range []string{"", "\x00", "\xff", "behind", textOf(46, 5), s, textOf(api.MaxData+1, 6), textOf(1<<16, 7)} {
				if got, b, e := Get(s + behind); got != h || b != body || e != api.OK {
					t.Fatalf("%+v, body of %d, %d behind: %+v, %d bytes, %d", h, len(body), len(behind), got, len(b), e)
				}
			}
		}
	}
}

// P3.3: at every length of body.
func TestPutIsGotAtEveryLength(t *testing.T) {
	for n := range api.MaxData + 1 {
		h := plain()
		h.ID, h.Opts = n, textOf(n%11*4, n)
		body := textOf(n, n)
		s, e := Put(h, body)
		if e != api.OK || s != bytesOf(h, body) {
			t.Fatalf("body of %d: %d bytes, %d", n, len(s), e)
		}
		if got, b, e := Get(s + "behind"); got != h || b != body || e != api.OK {
			t.Fatalf("body of %d: %+v, %d bytes, %d", n, got, len(b), e)
		}
	}
}

// P3.3: what is got, put again, is the datagram it came of, without what stood behind it.
func TestGotIsPut(t *testing.T) {
	for seed := range 2000 {
		all := 20 + seed%11*4 + seed
		s := []byte(textOf(all+3, seed))
		s[0] = byte(0x45 + seed%11)
		s[2], s[3] = byte(all>>8), byte(all)
		s[6] &= 0x7f
		text := summed(string(s))
		h, b, e := Get(text)
		if e != api.OK || !Check(h) {
			t.Fatalf("%d: %+v, %d", seed, h, e)
		}
		if again, e := Put(h, b); again != text[:all] || e != api.OK {
			t.Fatalf("%d: put again: %d bytes, %d", seed, len(again), e)
		}
	}
}

// R1: bytes of no kind at all are answered, and what is refused answers nothing else.
func TestGetAnything(t *testing.T) {
	for seed := range 20000 {
		s := []byte(textOf(seed%90, seed))
		if seed%2 == 0 && len(s) > 3 {
			s[0], s[2] = 0x40|s[0]&15, 0
			s[3] &= 63
		}
		h, b, e := Get(string(s))
		if e != api.OK && !refused(h, b, e, e) || e == api.OK && !Check(h) {
			t.Fatalf("%d: %+v, %q, %d", seed, h, b, e)
		}
	}
}
