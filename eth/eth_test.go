package eth

import (
	"math"
	"strings"
	"testing"

	"rampart/api"
)

// textOf is n bytes that look like nothing in particular, the same ones each time.
func textOf(n, seed int) string {
	b := make([]byte, n)
	x := uint32(seed)*2654435761 + 12345
	for i := range b {
		x = x*1664525 + 1013904223
		b[i] = byte(x >> 24)
	}
	return string(b)
}

// headOf is a head whose bytes differ all from each other.
func headOf(kind int) api.Eth {
	return api.Eth{Dst: [6]byte{1, 2, 3, 4, 5, 6}, Src: [6]byte{0x80, 0x90, 0xa0, 0xb0, 0xc0, 0xff}, Type: kind}
}

const ends = "\x01\x02\x03\x04\x05\x06\x80\x90\xa0\xb0\xc0\xff" // headOf's, as bytes

// bodiesThatFit are bodies of a frame that is not too big.
func bodiesThatFit() []string {
	return []string{"", "x", "\x00", "\xff\xfe", "a body", textOf(46, 1), textOf(1500, 2), textOf(api.MaxFrame-headBytes-1, 3), textOf(api.MaxFrame-headBytes, 4)}
}

// P2.1, Get: the fields, each at its place, the highest byte of Type first, and what stands behind.
func TestGet(t *testing.T) {
	for _, body := range bodiesThatFit() {
		h, rest, e := Get(ends + "\x08\x06" + body)
		if h != headOf(0x0806) || rest != body || e != api.OK {
			t.Errorf("body of %d: %v, %d bytes, %d", len(body), h, len(rest), e)
		}
	}
}

// P2.1, Get: every number of sixteen bits is a Type, never one below 0.
func TestGetEveryType(t *testing.T) {
	for v := range 1 << 16 {
		h, rest, e := Get(ends + string([]byte{byte(v >> 8), byte(v)}) + "b")
		if h != headOf(v) || rest != "b" || e != api.OK {
			t.Fatalf("%#x: %v, %q, %d", v, h, rest, e)
		}
	}
}

// P2.1, Get: a byte of a head is told in one field, at one place.
func TestGetEachByte(t *testing.T) {
	for i := range headBytes {
		s := make([]byte, headBytes)
		s[i] = 0xa5
		want := api.Eth{}
		switch {
		case i < 6:
			want.Dst[i] = 0xa5
		case i < 12:
			want.Src[i-6] = 0xa5
		case i == 12:
			want.Type = 0xa500
		default:
			want.Type = 0xa5
		}
		if h, rest, e := Get(string(s)); h != want || rest != "" || e != api.OK {
			t.Errorf("byte %d: %v, %q, %d", i, h, rest, e)
		}
	}
}

// P2.1, Get: how long a frame may be; beside an error all else is zero.
func TestGetLengths(t *testing.T) {
	for n := range api.MaxFrame + 20 {
		s := textOf(n, n)
		h, rest, e := Get(s)
		switch {
		case n < 14:
			if h != (api.Eth{}) || rest != "" || e != api.ErrShort {
				t.Errorf("%d bytes: %v, %q, %d, want ErrShort alone", n, h, rest, e)
			}
		case n > 3000:
			if h != (api.Eth{}) || rest != "" || e != api.ErrBig {
				t.Errorf("%d bytes: %v, %d bytes, %d, want ErrBig alone", n, h, len(rest), e)
			}
		default:
			if h == (api.Eth{}) || rest != s[14:] || e != api.OK {
				t.Errorf("%d bytes: %v, %d bytes, %d", n, h, len(rest), e)
			}
		}
	}
}

// P2.1, Get: far more than there may be.
func TestGetFarTooBig(t *testing.T) {
	if h, rest, e := Get(strings.Repeat("z", 1<<20)); h != (api.Eth{}) || rest != "" || e != api.ErrBig {
		t.Error(h, len(rest), e)
	}
}

// P2.1, Put: the bytes, for any body, also one that no frame could be got of.
func TestPut(t *testing.T) {
	for _, body := range append(bodiesThatFit(), textOf(api.MaxFrame-headBytes+1, 5), textOf(1<<16, 6)) {
		if got := Put(headOf(0x0806), body); got != ends+"\x08\x06"+body {
			t.Errorf("body of %d: %d bytes, %q", len(body), len(got), got[:headBytes])
		}
	}
	if got := Put(api.Eth{}, ""); got != strings.Repeat("\x00", 14) {
		t.Errorf("a zero head: %q", got)
	}
}

// P2.1, Put: of Type the lowest sixteen bits, the highest first.
func TestPutType(t *testing.T) {
	for _, x := range []struct {
		kind int
		want string
	}{
		{0, "\x00\x00"},
		{1, "\x00\x01"},
		{0x100, "\x01\x00"},
		{0x0800, "\x08\x00"},
		{0x86dd, "\x86\xdd"},
		{65535, "\xff\xff"},
		{65536, "\x00\x00"},
		{65537, "\x00\x01"},
		{0x12345, "\x23\x45"},
		{-1, "\xff\xff"},
		{-2, "\xff\xfe"},
		{-65535, "\x00\x01"},
		{-65536, "\x00\x00"},
		{-0x12345, "\xdc\xbb"},
		{math.MaxInt, "\xff\xff"},
		{math.MinInt, "\x00\x00"},
		{math.MinInt + 0x0806, "\x08\x06"},
	} {
		if got := Put(headOf(x.kind), "b"); got != ends+x.want+"b" {
			t.Errorf("%d: %q", x.kind, got)
		}
	}
}

// P2.2: what is put is got, with the lowest sixteen bits of its Type, while it is no more than a frame may be.
func TestPutIsGot(t *testing.T) {
	for i, body := range bodiesThatFit() {
		for _, kind := range []int{0, 1, 255, 256, 0x0800, 65535, 65536, 0x54321, -1, -65536, math.MaxInt, math.MinInt} {
			h := api.Eth{Type: kind}
			copy(h.Dst[:], textOf(6, i+kind))
			copy(h.Src[:], textOf(6, i+kind+1))
			want := h
			want.Type = kind & 65535
			if got, rest, e := Get(Put(h, body)); got != want || rest != body || e != api.OK {
				t.Errorf("Type %d, body of %d: %v, %d bytes, %d", kind, len(body), got, len(rest), e)
			}
		}
	}
}

// P2.2: what is got, put again, is the frame it came of.
func TestGotIsPut(t *testing.T) {
	for _, n := range []int{14, 15, 60, 1514, 2999, 3000} {
		s := textOf(n, n)
		h, rest, e := Get(s)
		if e != api.OK || Put(h, rest) != s {
			t.Errorf("%d bytes: %v, %d", n, h, e)
		}
	}
}

// P2.2, at its edge: what is put with one byte too many is refused.
func TestPutTooBigIsNotGot(t *testing.T) {
	h, rest, e := Get(Put(headOf(0x0800), textOf(api.MaxFrame-headBytes+1, 7)))
	if h != (api.Eth{}) || rest != "" || e != api.ErrBig {
		t.Error(h, len(rest), e)
	}
}

// R3: what is answered shares nothing with what is answered later or was handed in.
func TestAnswersStayTheSame(t *testing.T) {
	first := headOf(0x0800)
	s := Put(first, "body")
	first.Dst[0], first.Src[5] = 99, 99
	got, _, _ := Get(s)
	again, rest, _ := Get(s)
	got.Dst[0], got.Src[0] = 77, 77
	if again != headOf(0x0800) || rest != "body" || s != ends+"\x08\x00body" {
		t.Error(again, rest, s)
	}
}
