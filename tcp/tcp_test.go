package tcp

import (
	"math"
	"strings"
	"testing"

	"rampart/api"
)

const from, to = 0x0a010203, 0xc0a880fe // both ends' addresses

// textOf is n bytes that look like nothing in particular, the same ones each time.
func textOf(n, seed int) string {
	b := make([]byte, n)
	x := uint32(seed)*2654435761 + 12345
	for i := range b {
		x = x*1664525 + 1013904223
		b[i] = byte(x >> 24)
	}
	return string(b)
}

// plain is a head whose fields differ all from each other.
func plain() api.Seg {
	return api.Seg{Src: 0x1234, Dst: 0x5678, Seq: 0x9abcdef0, Ack: 0x0badcafe, Flags: 0x18, Win: 0x7ffe}
}

// sumOf is the sum of a segment as it stands, with what is summed ahead of it, worked out word by word, without package sum.
func sumOf(src, dst uint32, s string) int {
	words := []int{int(src >> 16), int(src & 65535), int(dst >> 16), int(dst & 65535), 6, len(s)}
	if len(s)%2 == 1 {
		s += "\x00"
	}
	for i := 0; i < len(s); i += 2 {
		words = append(words, int(s[i])<<8+int(s[i+1]))
	}
	v := 0
	for _, w := range words {
		v += w
		if v > 65535 {
			v -= 65535
		}
	}
	return 65535 - v
}

// summed is bytes with their sum put right.
func summed(src, dst uint32, s string) string {
	v := sumOf(src, dst, with(s, 16, "\x00\x00"))
	return with(s, 16, string([]byte{byte(v >> 8), byte(v)}))
}

// with is bytes with others at a place.
func with(s string, at int, w string) string {
	return s[:at] + w + s[at+len(w):]
}

// bytesOf is a segment, written down byte by byte as the chapter tells it.
func bytesOf(src, dst uint32, h api.Seg, body string) string {
	b := []byte{byte(h.Src / 256), byte(h.Src % 256), byte(h.Dst / 256), byte(h.Dst % 256),
		byte(h.Seq >> 24), byte(h.Seq >> 16), byte(h.Seq >> 8), byte(h.Seq),
		byte(h.Ack >> 24), byte(h.Ack >> 16), byte(h.Ack >> 8), byte(h.Ack),
		byte(16 * ((20 + len(h.Opts)) / 4)), byte(h.Flags), byte(h.Win / 256), byte(h.Win % 256), 0, 0, 0, 0}
	return summed(src, dst, string(b)+h.Opts+body)
}

// headsThatMayBe are heads with each field at its first and last places.
func headsThatMayBe() []api.Seg {
	heads := []api.Seg{{}, plain()}
	for _, v := range []int{1, 255, 256, 32767, 32768, 65534, 65535} {
		heads = append(heads, api.Seg{Src: v}, api.Seg{Dst: v}, api.Seg{Win: v})
	}
	for _, v := range []uint32{1, 255, 256, 1 << 16, 0x01020304, 1 << 31, math.MaxUint32 - 1, math.MaxUint32} {
		heads = append(heads, api.Seg{Seq: v}, api.Seg{Ack: v})
	}
	for v := range 64 {
		heads = append(heads, api.Seg{Flags: v})
	}
	for n := 0; n <= 40; n += 4 {
		h := plain()
		h.Opts = textOf(n, n)
		heads = append(heads, h, api.Seg{Opts: strings.Repeat("\x00", n)}, api.Seg{Opts: strings.Repeat("\xff", n)})
	}
	return append(heads, api.Seg{Src: 65535, Dst: 65535, Seq: math.MaxUint32, Ack: math.MaxUint32, Flags: 63, Win: 65535, Opts: strings.Repeat("\xff", 40)})
}

// headsThatMayNot are heads with one field beyond what it may be.
func headsThatMayNot() []api.Seg {
	var heads []api.Seg
	for _, v := range []int{-1, -65535, -65536, 65536, 65537, 1 << 32, math.MinInt, math.MaxInt} {
		heads = append(heads, api.Seg{Src: v}, api.Seg{Dst: v}, api.Seg{Win: v})
	}
	for _, v := range []int{-1, -64, 64, 65, 128, 255, 256, 257, 1 << 32, math.MinInt, math.MaxInt} {
		heads = append(heads, api.Seg{Flags: v})
	}
	for _, n := range []int{1, 2, 3, 5, 6, 37, 38, 39, 41, 42, 43, 44, 48, 64, 256, 1 << 16} {
		heads = append(heads, api.Seg{Opts: textOf(n, n)})
	}
	return heads
}

// bodiesThatFit are bodies with which a segment of that head is not too big.
func bodiesThatFit(h api.Seg) []string {
	most := 2000 - 20 - len(h.Opts)
	return []string{"", "x", "\x00", "\xff\xfe\xfd", textOf(236, 1), textOf(1460, 2), textOf(most-1, 3), textOf(most, 4)}
}

// refused tells whether all but the error is zero.
func refused(h api.Seg, body string, e, want api.Errno) bool {
	return h == (api.Seg{}) && body == "" && e == want
}

// P4.1, Check: each field at its first and last places, and one beyond.
func TestCheck(t *testing.T) {
	for _, h := range headsThatMayBe() {
		if !Check(h) {
			t.Errorf("no to %#v", h)
		}
	}
	for _, h := range headsThatMayNot() {
		if Check(h) {
			t.Errorf("yes to %#v", h)
		}
	}
}

// P4.1, Check: every number about what a field may be, every length of Opts.
func TestCheckEveryNumber(t *testing.T) {
	for v := -300; v < 66000; v++ {
		word := v >= 0 && v <= 65535
		for _, x := range []struct {
			name string
			h    api.Seg
			want bool
		}{
			{"Src", api.Seg{Src: v}, word},
			{"Dst", api.Seg{Dst: v}, word},
			{"Win", api.Seg{Win: v}, word},
			{"Flags", api.Seg{Flags: v}, v >= 0 && v <= 63},
		} {
			if Check(x.h) != x.want {
				t.Fatalf("%s %d: want %v", x.name, v, x.want)
			}
		}
	}
	for n := range 100 {
		if want := n <= 40 && n%4 == 0; Check(api.Seg{Opts: textOf(n, n)}) != want {
			t.Errorf("Opts of %d: want %v", n, want)
		}
	}
}

// P4.1, Put: segments written out, their sums among their bytes.
func TestPutWrittenOut(t *testing.T) {
	for _, x := range []struct {
		src, dst uint32
		h        api.Seg
		body     string
		want     string
	}{
		// 6, 20 and 0x5000 are summed: 0x501a.
		{0, 0, api.Seg{}, "", "\x00\x00\x00\x00\x00\x00\x00\x00\x00\x00\x00\x00\x50\x00\x00\x00\xaf\xe5\x00\x00"},
		// 1, 2, 6, 21, 3, 4, 5, 6, 0x5007, 8 and 'b' as the upper half of a word: 0xb23f.
		{1, 2, api.Seg{Src: 3, Dst: 4, Seq: 5, Ack: 6, Flags: 7, Win: 8}, "b", "\x00\x03\x00\x04\x00\x00\x00\x05\x00\x00\x00\x06\x50\x07\x00\x08\x4d\xc0\x00\x00b"},
		// 6, 24, 0x6000 and Opts 0x9fe1: 0xffff, so the sum is 0.
		{0, 0, api.Seg{Opts: "\x9f\xe1\x00\x00"}, "", "\x00\x00\x00\x00\x00\x00\x00\x00\x00\x00\x00\x00\x60\x00\x00\x00\x00\x00\x00\x00\x9f\xe1\x00\x00"},
	} {
		if s, e := Put(x.src, x.dst, x.h, x.body); s != x.want || e != api.OK {
			t.Errorf("%#v: %q, %d, want %q", x.h, s, e, x.want)
		}
	}
}

// P4.1, Put: the bytes of every head that may be, with bodies up to MaxData in all.
func TestPut(t *testing.T) {
	for _, h := range headsThatMayBe() {
		for _, body := range bodiesThatFit(h) {
			if s, e := Put(from, to, h, body); s != bytesOf(from, to, h, body) || e != api.OK {
				t.Errorf("%#v, body of %d: %d bytes, %d", h, len(body), len(s), e)
			}
		}
	}
}

// P4.1, Put: each byte of both addresses is summed, at its place in a word; they stand nowhere else.
func TestPutAddresses(t *testing.T) {
	addresses := []uint32{0, math.MaxUint32, 0x01020304}
	for bit := range 32 {
		addresses = append(addresses, 1<<bit)
	}
	for _, a := range addresses {
		for _, x := range [][2]uint32{{a, 0}, {0, a}, {a, a}, {a, to}, {from, a}} {
			s, e := Put(x[0], x[1], plain(), "body")
			if s != bytesOf(x[0], x[1], plain(), "body") || e != api.OK {
				t.Errorf("%#x, %#x: %q, %d", x[0], x[1], s, e)
			}
		}
	}
}

// P4.1, Put: a head that may not be is told ahead of a segment that is too big, and nothing is put.
func TestPutRefused(t *testing.T) {
	for _, h := range headsThatMayNot() {
		for _, n := range []int{0, 1, 1980, 1981, 2001} {
			if s, e := Put(from, to, h, textOf(n, n)); s != "" || e != api.ErrArg {
				t.Errorf("%#v, body of %d: %d bytes, %d, want ErrArg alone", h, n, len(s), e)
			}
		}
	}
}

// P4.1, Put: MaxData is of the whole segment, its head and options too.
func TestPutTooBig(t *testing.T) {
	for size := 0; size <= 40; size += 4 {
		h := plain()
		h.Opts = textOf(size, size)
		most := 1980 - size
		if s, e := Put(from, to, h, textOf(most, size)); len(s) != 2000 || e != api.OK {
			t.Errorf("Opts of %d, MaxData in all: %d bytes, %d", size, len(s), e)
		}
		for _, n := range []int{most + 1, most + 2, 2000, 2001, 65535, 65536 - 20, 1 << 16, 1 << 20} {
			if s, e := Put(from, to, h, textOf(n, n)); s != "" || e != api.ErrBig {
				t.Errorf("Opts of %d, body of %d: %d bytes, %d, want ErrBig alone", size, n, len(s), e)
			}
		}
	}
}

// P4.2, Get: what is fewer than 20 bytes is short, whatever stands in it.
func TestGetShort(t *testing.T) {
	good := bytesOf(from, to, plain(), "body")
	for n := range 20 {
		for _, s := range []string{good[:n], textOf(n, n), strings.Repeat("\x00", n), strings.Repeat("\xff", n)} {
			if h, b, e := Get(from, to, s); !refused(h, b, e, api.ErrShort) {
				t.Errorf("%q: %#v, %q, %d, want ErrShort alone", s, h, b, e)
			}
		}
	}
	if h, b, e := Get(from, to, bytesOf(from, to, plain(), "")); h != plain() || b != "" || e != api.OK {
		t.Errorf("20 bytes: %#v, %q, %d", h, b, e)
	}
}

// P4.2, Get: a byte of a head is told in one field, at one place.
func TestGetEachByte(t *testing.T) {
	for _, x := range []struct {
		at   int
		want api.Seg
	}{
		{0, api.Seg{Src: 0x2500}}, {1, api.Seg{Src: 0x25}},
		{2, api.Seg{Dst: 0x2500}}, {3, api.Seg{Dst: 0x25}},
		{4, api.Seg{Seq: 0x25000000}}, {5, api.Seg{Seq: 0x250000}}, {6, api.Seg{Seq: 0x2500}}, {7, api.Seg{Seq: 0x25}},
		{8, api.Seg{Ack: 0x25000000}}, {9, api.Seg{Ack: 0x250000}}, {10, api.Seg{Ack: 0x2500}}, {11, api.Seg{Ack: 0x25}},
		{13, api.Seg{Flags: 0x25}},
		{14, api.Seg{Win: 0x2500}}, {15, api.Seg{Win: 0x25}},
		{18, api.Seg{}}, {19, api.Seg{}},
		{20, api.Seg{}},
	} {
		s := with(strings.Repeat("\x00", 21), 12, "\x50")
		h, b, e := Get(from, to, summed(from, to, with(s, x.at, "\x25")))
		if h != x.want || (b == "\x25") != (x.at == 20) || len(b) != 1 || e != api.OK {
			t.Errorf("byte %d: %#v, %q, %d", x.at, h, b, e)
		}
	}
}

// P4.2, Get: every byte that tells the words, beside every length that a head may have and more.
func TestGetWords(t *testing.T) {
	for v := range 256 {
		for n := 20; n <= 64; n++ {
			s := summed(from, to, with(textOf(n, n), 12, string([]byte{byte(v), 0x18})))
			words := v / 16
			want := api.OK
			switch {
			case words < 5:
				want = api.ErrBytes
			case n < 4*words:
				want = api.ErrShort
			case v%16 != 0:
				want = api.ErrBytes
			}
			h, b, e := Get(from, to, s)
			if want != api.OK && !refused(h, b, e, want) {
				t.Errorf("%#x, %d bytes: %#v, %q, %d, want %d alone", v, n, h, b, e, want)
			}
			if want == api.OK && (h.Opts != s[20:4*words] || b != s[4*words:] || e != api.OK) {
				t.Errorf("%#x, %d bytes: %#v, %q, %d", v, n, h, b, e)
			}
		}
	}
}

// P4.2, Get: every byte of flags.
func TestGetFlags(t *testing.T) {
	good := bytesOf(from, to, plain(), "b")
	for v := range 256 {
		want := plain()
		want.Flags = v
		h, b, e := Get(from, to, summed(from, to, with(good, 13, string([]byte{byte(v)}))))
		if v > 63 && !refused(h, b, e, api.ErrBytes) {
			t.Errorf("%#x: %#v, %q, %d, want ErrBytes alone", v, h, b, e)
		}
		if v <= 63 && (h != want || b != "b" || e != api.OK) {
			t.Errorf("%#x: %#v, %q, %d", v, h, b, e)
		}
	}
}

// P4.2, Get: MaxData is of the whole segment, its head and options too.
func TestGetTooBig(t *testing.T) {
	for size := 0; size <= 40; size += 4 {
		h := plain()
		h.Opts = textOf(size, size)
		for _, n := range []int{1999, 2000} {
			body := textOf(n-20-size, n)
			if got, b, e := Get(from, to, bytesOf(from, to, h, body)); got != h || b != body || e != api.OK {
				t.Errorf("Opts of %d, %d bytes: %#v, %d bytes, %d", size, n, got, len(b), e)
			}
		}
		for _, n := range []int{2001, 2002, 2020, 2060, 65535, 65536, 65536 + 100, 1 << 20} {
			s := bytesOf(from, to, h, textOf(n-20-size, n))
			if got, b, e := Get(from, to, s); !refused(got, b, e, api.ErrBig) {
				t.Errorf("Opts of %d, %d bytes: %#v, %d bytes, %d, want ErrBig alone", size, n, got, len(b), e)
			}
		}
	}
}

// P4.2, Get: of all that may stand in a sum's place, one sum is right; it has two forms only where it is 0.
func TestGetSum(t *testing.T) {
	good := bytesOf(from, to, plain(), "body")
	for v := range 1 << 16 {
		s := with(good, 16, string([]byte{byte(v >> 8), byte(v)}))
		h, b, e := Get(from, to, s)
		if s != good && !refused(h, b, e, api.ErrSum) {
			t.Fatalf("%#x: %#v, %q, %d, want ErrSum alone", v, h, b, e)
		}
		if s == good && (h != plain() || b != "body" || e != api.OK) {
			t.Fatalf("%#x: %#v, %q, %d", v, h, b, e)
		}
	}
	zero := "\x00\x00\x00\x00\x00\x00\x00\x00\x00\x00\x00\x00\x60\x00\x00\x00\x00\x00\x00\x00\x9f\xe1\x00\x00"
	for _, s := range []string{zero, with(zero, 16, "\xff\xff")} {
		if h, b, e := Get(0, 0, s); h != (api.Seg{Opts: "\x9f\xe1\x00\x00"}) || b != "" || e != api.OK {
			t.Errorf("%q: %#v, %q, %d", s, h, b, e)
		}
	}
}

// P4.2, Get: the sum is of both addresses, of 6, of how many bytes there are, and of all of these.
func TestGetSumOfWhat(t *testing.T) {
	good := bytesOf(from, to, plain(), "body")
	for bit := range 32 {
		if h, b, e := Get(from^1<<bit, to, good); !refused(h, b, e, api.ErrSum) {
			t.Errorf("bit %d of src: %#v, %q, %d, want ErrSum alone", bit, h, b, e)
		}
		if h, b, e := Get(from, to^1<<bit, good); !refused(h, b, e, api.ErrSum) {
			t.Errorf("bit %d of dst: %#v, %q, %d, want ErrSum alone", bit, h, b, e)
		}
	}
	for _, behind := range []string{"\x00", "\x00\x00", "x", good} {
		if h, b, e := Get(from, to, good+behind); !refused(h, b, e, api.ErrSum) {
			t.Errorf("%d bytes behind: %#v, %q, %d, want ErrSum alone", len(behind), h, b, e)
		}
	}
	if h, b, e := Get(from, to, good[:len(good)-1]); !refused(h, b, e, api.ErrSum) {
		t.Errorf("a byte too few: %#v, %q, %d, want ErrSum alone", h, b, e)
	}
	v := sumOf(from, to, with(good, 16, "\x00\x00")) - 11
	if h, b, e := Get(from, to, with(good, 16, string([]byte{byte(v >> 8), byte(v)}))); !refused(h, b, e, api.ErrSum) {
		t.Errorf("the sum with 17 for 6: %#v, %q, %d, want ErrSum alone", h, b, e)
	}
}

// P4.2, Get: the two bytes ahead of the options may be any, are summed, and are left out.
func TestGetUnusedBytes(t *testing.T) {
	h := plain()
	h.Opts = "abcd"
	good := bytesOf(from, to, h, "body")
	for v := range 1 << 16 {
		s := with(good, 18, string([]byte{byte(v >> 8), byte(v)}))
		if got, b, e := Get(from, to, summed(from, to, s)); got != h || b != "body" || e != api.OK {
			t.Fatalf("%#x: %#v, %q, %d", v, got, b, e)
		}
		got, b, e := Get(from, to, s)
		if v != 0 && v != 65535 && !refused(got, b, e, api.ErrSum) {
			t.Fatalf("%#x, its sum as it was: %#v, %q, %d, want ErrSum alone", v, got, b, e)
		}
	}
}

// P4.2: where two errors apply, the one that is ahead in the order is told.
func TestGetOrder(t *testing.T) {
	h := plain()
	h.Opts = "abcd"
	good := bytesOf(from, to, h, "body") // a head of 24
	big := bytesOf(from, to, h, textOf(1977, 1))
	for _, x := range []struct {
		name string
		s    string
		want api.Errno
	}{
		{"fewer than 20, too few words", with(good, 12, "\x40")[:19], api.ErrShort},
		{"fewer than 20, the half", with(good, 12, "\x51")[:19], api.ErrShort},
		{"fewer than 20, Flags", with(good, 13, "\x40")[:19], api.ErrShort},
		{"too few words, the half, Flags", with(good, 12, "\x41\x40"), api.ErrBytes},
		{"too few words, too big", with(big, 12, "\x00"), api.ErrBytes},
		{"too few words, the sum", with(good, 12, "\x40"), api.ErrBytes},
		{"shorter than its head, the half", with(good, 12, "\x61")[:23], api.ErrShort},
		{"shorter than its head, Flags", with(good, 13, "\xff")[:23], api.ErrShort},
		{"shorter than its head, the sum", good[:23], api.ErrShort},
		{"shorter than the longest head, all else", with(good, 12, "\xff\xff"), api.ErrShort},
		{"the half, too big", with(big, 12, "\x61"), api.ErrBytes},
		{"the half, too big, its sum right", summed(from, to, with(big, 12, "\x61")), api.ErrBytes},
		{"the half, the sum", with(good, 12, "\x61"), api.ErrBytes},
		{"Flags, too big", with(big, 13, "\x40"), api.ErrBytes},
		{"Flags, too big, its sum right", summed(from, to, with(big, 13, "\x40")), api.ErrBytes},
		{"Flags, the sum", with(good, 13, "\x80"), api.ErrBytes},
		{"too big", big, api.ErrBig},
		{"too big, the sum", with(big, 16, "\x00\x00"), api.ErrBig},
		{"the sum", with(good, 16, "\x00\x00"), api.ErrSum},
	} {
		if h, b, e := Get(from, to, x.s); !refused(h, b, e, x.want) {
			t.Errorf("%s: %#v, %d bytes, %d, want %d alone", x.name, h, len(b), e, x.want)
		}
	}
}

// P4.3: what is put is got, by any addresses.
func TestPutIsGot(t *testing.T) {
	for _, h := range headsThatMayBe() {
		for _, body := range bodiesThatFit(h) {
			for _, x := range [][2]uint32{{from, to}, {0, 0}, {math.MaxUint32, math.MaxUint32}, {1 << 31, 1}} {
				s, _ := Put(x[0], x[1], h, body)
				if got, b, e := Get(x[0], x[1], s); got != h || b != body || e != api.OK {
					t.Fatalf("%#v, body of %d: %#v, %d bytes, %d", h, len(body), got, len(b), e)
				}
			}
		}
	}
}

// P4.3: at every length of body.
func TestPutIsGotAtEveryLength(t *testing.T) {
	for size := 0; size <= 40; size += 4 {
		for n := range 2000 - 20 - size + 1 {
			h := plain()
			h.Src, h.Opts = n, textOf(size, n)
			body := textOf(n, n)
			s, e := Put(from, to, h, body)
			if e != api.OK || len(s) != 20+size+n {
				t.Fatalf("Opts of %d, body of %d: %d bytes, %d", size, n, len(s), e)
			}
			if got, b, e := Get(from, to, s); got != h || b != body || e != api.OK {
				t.Fatalf("Opts of %d, body of %d: %#v, %d bytes, %d", size, n, got, len(b), e)
			}
		}
	}
}

// P4.3: with any one bit turned, what was put is no segment any more.
func TestPutTurned(t *testing.T) {
	for _, h := range headsThatMayBe() {
		for _, body := range []string{"", "x", "\x00", "\xff\xff", textOf(41, 1), textOf(64, 2)} {
			s, e := Put(from, to, h, body)
			if e != api.OK {
				t.Fatalf("%#v: %d", h, e)
			}
			everyBitTurned(t, s)
		}
	}
	for _, n := range []int{1979, 1980} {
		s, e := Put(from, to, plain(), textOf(n, n))
		if e != api.OK {
			t.Fatalf("body of %d: %d", n, e)
		}
		everyBitTurned(t, s)
	}
}

// everyBitTurned turns each bit of a segment, one at a time, and asks for it.
func everyBitTurned(t *testing.T, s string) {
	for i := range len(s) {
		for bit := range 8 {
			h, b, e := Get(from, to, with(s, i, string([]byte{s[i] ^ 1<<bit})))
			if e == api.OK || !refused(h, b, e, e) {
				t.Fatalf("%q, byte %d, bit %d: %#v, %q, %d", s, i, bit, h, b, e)
			}
			if i != 12 && i != 13 && e != api.ErrSum {
				t.Fatalf("%q, byte %d, bit %d: %d, want ErrSum", s, i, bit, e)
			}
		}
	}
}

// P4.3: what is got, put again, is the segment it came of, but for the two bytes that are left out.
func TestGotIsPut(t *testing.T) {
	for seed := range 1900 {
		size := 20 + seed%11*4
		s := []byte(textOf(size+seed, seed))
		s[12], s[18], s[19] = byte(size/4*16), 0, 0
		s[13] &= 63
		text := summed(from, to, string(s))
		h, b, e := Get(from, to, text)
		if e != api.OK || !Check(h) {
			t.Fatalf("%d: %#v, %d", seed, h, e)
		}
		if again, e := Put(from, to, h, b); again != text || e != api.OK {
			t.Fatalf("%d: put again: %d bytes, %d", seed, len(again), e)
		}
	}
}

// R1: bytes of no kind at all are answered, and what is refused answers nothing else.
func TestGetAnything(t *testing.T) {
	for seed := range 20000 {
		s := textOf(seed%90, seed)
		if seed%2 == 0 && len(s) >= 20 {
			s = summed(from, to, with(s, 13, "\x10"))
		}
		h, b, e := Get(from, to, s)
		if e != api.OK && !refused(h, b, e, e) || e == api.OK && !Check(h) {
			t.Fatalf("%d: %#v, %q, %d", seed, h, b, e)
		}
	}
}
