package craft

import (
	"math"
	"strings"
	"testing"

	"rampart/api"
	"rampart/dgram"
	"rampart/eth"
	"rampart/ipv4"
	"rampart/tcp"
)

// textOf is n bytes that look like nothing in particular, the same ones each time.
func textOf(n, seed int) string {
	b := make([]byte, n)
	x := uint32(seed)*2654435761 + 12345
	for i := range b {
		x = x*1664525 + 1013904223
		b[i] = byte(x >> 24)
	}
	return string(b)
}

// with is bytes with others at a place.
func with(s string, at int, w string) string {
	return s[:at] + w + s[at+len(w):]
}

// oneByte is the lowest byte of a number.
func oneByte(v int) string {
	return string([]byte{byte(v)})
}

// twoBytes is the lowest two bytes of a number, the highest first.
func twoBytes(v int) string {
	return string([]byte{byte(v >> 8), byte(v)})
}

// fourBytes is a number's four bytes, the highest first.
func fourBytes(v uint32) string {
	return string([]byte{byte(v >> 24), byte(v >> 16), byte(v >> 8), byte(v)})
}

// sumOf is the sum of bytes, worked out word by word, without package sum.
func sumOf(s string) int {
	if len(s)%2 == 1 {
		s += "\x00"
	}
	v := 0
	for i := 0; i < len(s); i += 2 {
		v += int(s[i])<<8 + int(s[i+1])
		if v > 65535 {
			v -= 65535
		}
	}
	return 65535 - v
}

// frameBytes is a frame, written down byte by byte as chapter 2 tells it.
func frameBytes(e api.Eth, body string) string {
	return string(e.Dst[:]) + string(e.Src[:]) + twoBytes(e.Type) + body
}

// netBytes is a datagram, written down byte by byte as chapter 3 tells it.
func netBytes(i api.IP, body string) string {
	cut := i.Off / 8
	if i.Keep {
		cut += 16384
	}
	if i.More {
		cut += 8192
	}
	head := 20 + len(i.Opts)
	s := oneByte(64+head/4) + oneByte(i.Tos) + twoBytes(head+len(body)) + twoBytes(i.ID) + twoBytes(cut) +
		oneByte(i.TTL) + oneByte(i.Proto) + "\x00\x00" + fourBytes(i.Src) + fourBytes(i.Dst) + i.Opts
	return with(s, 10, twoBytes(sumOf(s))) + body
}

// segBytes is a segment, written down byte by byte as chapter 4 tells it.
func segBytes(src, dst uint32, h api.Seg, body string) string {
	s := twoBytes(h.Src) + twoBytes(h.Dst) + fourBytes(h.Seq) + fourBytes(h.Ack) + oneByte((20+len(h.Opts))/4*16) +
		oneByte(h.Flags) + twoBytes(h.Win) + "\x00\x00" + "\x00\x00" + h.Opts + body
	ahead := fourBytes(src) + fourBytes(dst) + "\x00\x06" + twoBytes(len(s))
	return with(s, 16, twoBytes(sumOf(ahead+s)))
}

// toldBytes is a message of ICMP that tells that something was not reached, written down byte by byte as chapter 5 tells it.
func toldBytes(quote string) string {
	s := "\x03\x03\x00\x00" + "\x00\x00\x00\x00" + quote
	return with(s, 2, twoBytes(sumOf(s)))
}

// link is a frame's head whose bytes all differ.
func link() api.Eth {
	return api.Eth{Dst: [6]byte{0x11, 0x12, 0x13, 0x14, 0x15, 0x16}, Src: [6]byte{0x21, 0x22, 0x23, 0x24, 0x25, 0x26}, Type: 0x0800}
}

// plain is a datagram's head whose fields all differ from what Back and Reset make of them.
func plain() api.IP {
	return api.IP{Tos: 0x31, ID: 0x4142, More: true, Keep: true, Off: 1480, TTL: 9, Proto: api.TCP, Src: 0x0a010203, Dst: 0xc0a880fe, Opts: "opts"}
}

// seg is a segment's head whose fields all differ from what Reset makes of them.
func seg() api.Seg {
	return api.Seg{Src: 0x1234, Dst: 0x5678, Seq: 0x01020304, Ack: 0xf1f2f3f4, Flags: api.PSH | api.FIN | 32, Win: 0x6162, Opts: "optsopts"}
}

// links are heads of frames, each field at its first and last places.
func links() []api.Eth {
	most := [6]byte{255, 255, 255, 255, 255, 255}
	all := []api.Eth{{}, link(), {Dst: most}, {Src: most}, {Dst: most, Src: most, Type: 65535}}
	for _, v := range []int{1, 255, 256, 2048, 2054, 32768, 65534, 65535} {
		all = append(all, api.Eth{Type: v})
	}
	for at := range 6 {
		var x api.Eth
		x.Dst[at], x.Src[5-at] = 1, 2
		all = append(all, x)
	}
	return all
}

// nets are heads of datagrams that may be, each field at its first and last places.
func nets() []api.IP {
	all := []api.IP{{}, plain(), {More: true}, {Keep: true}, {More: true, Keep: true}}
	all = append(all, api.IP{Tos: 255, ID: 65535, More: true, Keep: true, Off: 65528, TTL: 255, Proto: 255, Src: math.MaxUint32, Dst: math.MaxUint32, Opts: strings.Repeat("\xff", 40)})
	for _, v := range []int{1, 6, 17, 63, 64, 65, 128, 254, 255} {
		all = append(all, api.IP{Tos: v}, api.IP{TTL: v}, api.IP{Proto: v})
	}
	for _, v := range []int{1, 255, 256, 32768, 65534, 65535} {
		all = append(all, api.IP{ID: v})
	}
	for _, v := range []int{8, 16, 2048, 32768, 65520, 65528} {
		all = append(all, api.IP{Off: v}, api.IP{Off: v, More: true})
	}
	for _, v := range []uint32{1, 256, 65536, 1 << 31, math.MaxUint32} {
		all = append(all, api.IP{Src: v}, api.IP{Dst: v})
	}
	for n := 4; n <= 40; n += 4 {
		all = append(all, api.IP{Opts: textOf(n, n)})
	}
	return all
}

// segs are heads of segments that may be, each field at its first and last places.
func segs() []api.Seg {
	all := []api.Seg{{}, seg(), {Src: 65535, Dst: 65535, Seq: math.MaxUint32, Ack: math.MaxUint32, Flags: 63, Win: 65535, Opts: strings.Repeat("\xff", 40)}}
	for _, v := range []int{1, 80, 255, 256, 32768, 65534, 65535} {
		all = append(all, api.Seg{Src: v}, api.Seg{Dst: v}, api.Seg{Win: v})
	}
	for _, v := range []uint32{1, 65535, 1 << 16, 1 << 31, math.MaxUint32} {
		all = append(all, api.Seg{Seq: v}, api.Seg{Ack: v})
	}
	for v := range 64 {
		all = append(all, api.Seg{Flags: v})
	}
	for n := 4; n <= 40; n += 4 {
		all = append(all, api.Seg{Opts: textOf(n, n)})
	}
	return all
}

// badNets are heads that ipv4 refuses, each for one field alone.
func badNets() []api.IP {
	var all []api.IP
	for _, v := range []int{-1, 256, 320, math.MinInt, math.MaxInt, -256, 1 << 32} {
		all = append(all, api.IP{Tos: v}, api.IP{TTL: v}, api.IP{Proto: v})
	}
	for _, v := range []int{-1, 65536, math.MinInt, math.MaxInt, 1 << 32} {
		all = append(all, api.IP{ID: v})
	}
	for _, v := range []int{-8, -1, 1, 4, 7, 9, 65527, 65529, 65535, 65536, math.MinInt, math.MaxInt} {
		all = append(all, api.IP{Off: v})
	}
	for _, n := range []int{1, 2, 3, 5, 39, 41, 43, 44, 80, 4096} {
		all = append(all, api.IP{Opts: textOf(n, n)})
	}
	return all
}

// badSegs are heads that tcp refuses.
func badSegs() []api.Seg {
	var all []api.Seg
	for _, v := range []int{-1, 65536, math.MinInt, math.MaxInt, 1 << 32} {
		all = append(all, api.Seg{Src: v}, api.Seg{Dst: v}, api.Seg{Win: v})
	}
	for _, v := range []int{-1, 64, 128, 255, 256, math.MinInt, math.MaxInt} {
		all = append(all, api.Seg{Flags: v})
	}
	for _, n := range []int{1, 2, 3, 5, 39, 41, 43, 44, 80, 4096} {
		all = append(all, api.Seg{Opts: textOf(n, n)})
	}
	return all
}

// bodies are bodies up to n bytes.
func bodies(n int) []string {
	return []string{"", "x", "\x00", "\xff\xff", textOf(7, 7), textOf(8, 8), textOf(9, 9), textOf(n-1, 1), textOf(n, 2), strings.Repeat("\xff", n)}
}

// tooLong are how many bytes are more than n.
func tooLong(n int) []int {
	return []int{n + 1, n + 2, 2001, 2100, 3000, 65515, 65516, 65535, 65536, 1 << 20}
}

// opened is a frame's heads and what its datagram carries.
func opened(t *testing.T, s string) (api.Eth, api.IP, string) {
	t.Helper()
	e, d, x := eth.Get(s)
	if x != api.OK {
		t.Fatalf("%q: no frame, %d", s, x)
	}
	i, body, x := ipv4.Get(d)
	if x != api.OK {
		t.Fatalf("%q: no datagram, %d", s, x)
	}
	if len(d) != 20+len(i.Opts)+len(body) {
		t.Fatalf("%q: %d bytes behind the datagram", s, len(d)-20-len(i.Opts)-len(body))
	}
	return e, i, body
}

// P6.1: frames written out, byte by byte.
func TestWrittenOut(t *testing.T) {
	e := api.Eth{Dst: [6]byte{1, 2, 3, 4, 5, 6}, Src: [6]byte{7, 8, 9, 10, 11, 12}, Type: 0x0800}
	i := api.IP{TTL: 5, Proto: 6, Src: 0x01000002, Dst: 0x03000004}
	on, back := "\x01\x02\x03\x04\x05\x06\x07\x08\x09\x0a\x0b\x0c\x08\x00", "\x07\x08\x09\x0a\x0b\x0c\x01\x02\x03\x04\x05\x06\x08\x00"
	for _, x := range []struct {
		name, got, want string
	}{
		// 0x4500, 22, 0x0506, 0x0100, 2, 0x0300 and 4: 0x4e22.
		{"Datagram", Datagram(e, i, "ab"), on + "E\x00\x00\x16\x00\x00\x00\x00\x05\x06\xb1\xdd\x01\x00\x00\x02\x03\x00\x00\x04ab"},
		// The head: 0x4500, 41, 0x0506, 0x0406: 0x4e35. The segment: 0x0406, 6, 21, 1, 2, 3, 4, 0x5018, 5 and 'z' as the upper half of a word: 0xce48.
		{"Segment", Segment(e, i, api.Seg{Src: 1, Dst: 2, Seq: 3, Ack: 4, Flags: 24, Win: 5}, "z"),
			on + "E\x00\x00\x29\x00\x00\x00\x00\x05\x06\xb1\xca\x01\x00\x00\x02\x03\x00\x00\x04" +
				"\x00\x01\x00\x02\x00\x00\x00\x03\x00\x00\x00\x04\x50\x18\x00\x05\x31\xb7\x00\x00z"},
		// The head: 0x4500, 40, 0x4006, 0x0406: 0x8934. The segment: 0x0406, 6, 20, 2, 1, 7, 8 and 0x5014: 0x5446.
		{"Reset back", Reset(e, i, api.Seg{Src: 1, Dst: 2, Seq: 3, Ack: 4, Flags: 24, Win: 5}, 7, 8, true),
			back + "E\x00\x00\x28\x00\x00\x00\x00\x40\x06\x76\xcb\x03\x00\x00\x04\x01\x00\x00\x02" +
				"\x00\x02\x00\x01\x00\x00\x00\x07\x00\x00\x00\x08\x50\x14\x00\x00\xab\xb9\x00\x00"},
		// The head: 0x4500, 40, 0x0506, 0x0406: 0x4e34. The segment's sum is the same as that of the one that goes back.
		{"Reset on", Reset(e, i, api.Seg{Src: 1, Dst: 2, Seq: 3, Ack: 4, Flags: 24, Win: 5}, 7, 8, false),
			on + "E\x00\x00\x28\x00\x00\x00\x00\x05\x06\xb1\xcb\x01\x00\x00\x02\x03\x00\x00\x04" +
				"\x00\x01\x00\x02\x00\x00\x00\x07\x00\x00\x00\x08\x50\x14\x00\x00\xab\xb9\x00\x00"},
		// The head: 0x4500, 50, 0x4001, 0x0406: 0x8939. The message: 0x0303 and 0x6162: 0x6465; the quoted head is 0xffff in all, which adds nothing.
		{"Unreachable", Unreachable(e, i, "ab"),
			back + "E\x00\x00\x32\x00\x00\x00\x00\x40\x01\x76\xc6\x03\x00\x00\x04\x01\x00\x00\x02" +
				"\x03\x03\x9b\x9a\x00\x00\x00\x00" +
				"E\x00\x00\x16\x00\x00\x00\x00\x05\x06\xb1\xdd\x01\x00\x00\x02\x03\x00\x00\x04ab"},
	} {
		if x.got != x.want {
			t.Errorf("%s: %q, want %q", x.name, x.got, x.want)
		}
	}
}

// P6.1, Datagram: the bytes of every head that may be, with bodies up to MaxData.
func TestDatagram(t *testing.T) {
	for _, body := range bodies(api.MaxData) {
		for _, i := range nets() {
			if s := Datagram(link(), i, body); s != frameBytes(link(), netBytes(i, body)) {
				t.Errorf("%#v, body of %d: %q", i, len(body), s)
			}
		}
		for _, e := range links() {
			if s := Datagram(e, plain(), body); s != frameBytes(e, netBytes(plain(), body)) {
				t.Errorf("%#v, body of %d: %q", e, len(body), s)
			}
		}
	}
}

// P6.1, Datagram: of a Type that has more than sixteen bits, the lowest ones, as eth's Put has it.
func TestDatagramType(t *testing.T) {
	for _, v := range []int{-1, 65536, 65536 + 2048, math.MinInt, math.MaxInt, -1 << 32} {
		e := link()
		e.Type = v
		if s := Datagram(e, plain(), "body"); s != frameBytes(e, netBytes(plain(), "body")) {
			t.Errorf("%d: %q", v, s)
		}
	}
}

// P6.1, Datagram: empty, if ipv4 refuses the head.
func TestDatagramNone(t *testing.T) {
	for _, i := range badNets() {
		for _, n := range []int{0, 1, 2000, 2001} {
			if s := Datagram(link(), i, textOf(n, n)); s != "" {
				t.Errorf("%#v, body of %d: %d bytes", i, n, len(s))
			}
		}
	}
}

// P6.1, Datagram: MaxData is of the body, whatever the head's options.
func TestDatagramTooBig(t *testing.T) {
	for opts := 0; opts <= 40; opts += 4 {
		i := plain()
		i.Opts = textOf(opts, opts)
		if s := Datagram(link(), i, textOf(2000, 1)); len(s) != 14+20+opts+2000 {
			t.Errorf("options of %d, MaxData: %d bytes", opts, len(s))
		}
		for _, n := range tooLong(2000) {
			if s := Datagram(link(), i, textOf(n, n)); s != "" {
				t.Errorf("options of %d, body of %d: %d bytes", opts, n, len(s))
			}
		}
	}
}

// P6.1, Segment: the bytes of every head that may be, with bodies up to MaxData in all.
func TestSegment(t *testing.T) {
	for _, h := range segs() {
		for _, body := range bodies(api.MaxData - 20 - len(h.Opts)) {
			i := plain()
			if s := Segment(link(), i, h, body); s != frameBytes(link(), netBytes(i, segBytes(i.Src, i.Dst, h, body))) {
				t.Errorf("%#v, body of %d: %q", h, len(body), s)
			}
		}
	}
	for _, body := range bodies(api.MaxData - 20 - len(seg().Opts)) {
		for _, i := range nets() {
			if s := Segment(link(), i, seg(), body); s != frameBytes(link(), netBytes(i, segBytes(i.Src, i.Dst, seg(), body))) {
				t.Errorf("%#v, body of %d: %q", i, len(body), s)
			}
		}
		for _, e := range links() {
			if s := Segment(e, plain(), seg(), body); s != frameBytes(e, netBytes(plain(), segBytes(plain().Src, plain().Dst, seg(), body))) {
				t.Errorf("%#v, body of %d: %q", e, len(body), s)
			}
		}
	}
}

// P6.1, Segment: empty, if tcp refuses the segment's head or ipv4 the datagram's.
func TestSegmentNone(t *testing.T) {
	for _, n := range []int{0, 1, 1972, 1973, 2001} {
		for _, h := range badSegs() {
			if s := Segment(link(), plain(), h, textOf(n, n)); s != "" {
				t.Errorf("%#v, body of %d: %d bytes", h, n, len(s))
			}
		}
		for _, i := range badNets() {
			if s := Segment(link(), i, seg(), textOf(n, n)); s != "" {
				t.Errorf("%#v, body of %d: %d bytes", i, n, len(s))
			}
		}
	}
}

// P6.1, Segment: MaxData is of the whole segment, its options too, whatever the datagram's.
func TestSegmentTooBig(t *testing.T) {
	for opts := 0; opts <= 40; opts += 4 {
		h := seg()
		h.Opts = textOf(opts, opts)
		for _, i := range []api.IP{{}, plain(), {Opts: textOf(40, 1)}} {
			if s := Segment(link(), i, h, textOf(1980-opts, 1)); len(s) != 14+20+len(i.Opts)+2000 {
				t.Errorf("options of %d, MaxData in all: %d bytes", opts, len(s))
			}
			for _, n := range tooLong(1980 - opts) {
				if s := Segment(link(), i, h, textOf(n, n)); s != "" {
					t.Errorf("options of %d, body of %d: %d bytes", opts, n, len(s))
				}
			}
		}
	}
}

// P6.1, Back: both ends turned, and a head as that of a datagram that is not cut, and new.
func TestBack(t *testing.T) {
	for _, e := range links() {
		for _, i := range nets() {
			b, j := Back(e, i)
			if b != (api.Eth{Dst: e.Src, Src: e.Dst, Type: e.Type}) {
				t.Errorf("%#v: %#v", e, b)
			}
			if j != (api.IP{Tos: i.Tos, TTL: 64, Proto: i.Proto, Src: i.Dst, Dst: i.Src}) {
				t.Errorf("%#v: %#v", i, j)
			}
		}
	}
}

// P6.1, Back: it refuses nothing; what it does not set is as it is, even where it may not be.
func TestBackAnything(t *testing.T) {
	for _, i := range badNets() {
		i.Src, i.Dst = 7, 8
		for _, v := range []int{0, -1, 65536, math.MinInt, math.MaxInt} {
			b, j := Back(api.Eth{Dst: [6]byte{1}, Src: [6]byte{2}, Type: v}, i)
			if b != (api.Eth{Dst: [6]byte{2}, Src: [6]byte{1}, Type: v}) {
				t.Errorf("Type %d: %#v", v, b)
			}
			if j != (api.IP{Tos: i.Tos, TTL: 64, Proto: i.Proto, Src: 8, Dst: 7}) {
				t.Errorf("%#v: %#v", i, j)
			}
		}
	}
}

// P6.1, Back: twice, both ends are as they were; once more is as once, but for the ends.
func TestBackTwice(t *testing.T) {
	for _, e := range links() {
		for _, i := range append(nets(), badNets()...) {
			b, j := Back(e, i)
			c, k := Back(b, j)
			if c != e || k != (api.IP{Tos: i.Tos, TTL: 64, Proto: i.Proto, Src: i.Src, Dst: i.Dst}) {
				t.Errorf("%#v, %#v: %#v, %#v", e, i, c, k)
			}
			d, l := Back(c, k)
			if d != b || l != j {
				t.Errorf("%#v, %#v: thrice %#v, %#v", e, i, d, l)
			}
		}
	}
}

// numbers are a reset's Seq and Ack.
func numbers() [][2]uint32 {
	return [][2]uint32{{0, 0}, {1, 2}, {0x01020304, 0x05060708}, {0, math.MaxUint32}, {math.MaxUint32, 0}, {1 << 31, 1<<31 - 1}}
}

// resetBytes is a reset, written down as the chapter tells it.
func resetBytes(e api.Eth, i api.IP, h api.Seg, seq, ack uint32, back bool) string {
	j := api.IP{Tos: i.Tos, ID: i.ID, TTL: i.TTL, Proto: i.Proto, Src: i.Src, Dst: i.Dst}
	r := api.Seg{Src: h.Src, Dst: h.Dst, Seq: seq, Ack: ack, Flags: 20}
	if back {
		e = api.Eth{Dst: e.Src, Src: e.Dst, Type: e.Type}
		j = api.IP{Tos: i.Tos, TTL: 64, Proto: i.Proto, Src: i.Dst, Dst: i.Src}
		r = api.Seg{Src: h.Dst, Dst: h.Src, Seq: seq, Ack: ack, Flags: 20}
	}
	return frameBytes(e, netBytes(j, segBytes(j.Src, j.Dst, r, "")))
}

// P6.1, Reset: the bytes of one that goes on and of one that goes back, of every head that may be.
func TestReset(t *testing.T) {
	for _, back := range []bool{false, true} {
		for _, n := range numbers() {
			for _, e := range links() {
				if s := Reset(e, plain(), seg(), n[0], n[1], back); s != resetBytes(e, plain(), seg(), n[0], n[1], back) {
					t.Errorf("%#v, %v, %v: %q", e, n, back, s)
				}
			}
			for _, i := range nets() {
				if s := Reset(link(), i, seg(), n[0], n[1], back); s != resetBytes(link(), i, seg(), n[0], n[1], back) {
					t.Errorf("%#v, %v, %v: %q", i, n, back, s)
				}
			}
			for _, h := range segs() {
				if s := Reset(link(), plain(), h, n[0], n[1], back); s != resetBytes(link(), plain(), h, n[0], n[1], back) {
					t.Errorf("%#v, %v, %v: %q", h, n, back, s)
				}
			}
		}
	}
}

// P6.1, Reset: field by field, as it is got again.
func TestResetFields(t *testing.T) {
	e, i, body := opened(t, Reset(link(), plain(), seg(), 1000, 2000, true))
	if e != (api.Eth{Dst: link().Src, Src: link().Dst, Type: 0x0800}) || i != (api.IP{Tos: 0x31, TTL: 64, Proto: 6, Src: 0xc0a880fe, Dst: 0x0a010203}) {
		t.Errorf("back: %#v, %#v", e, i)
	}
	h, b, x := tcp.Get(0xc0a880fe, 0x0a010203, body)
	if h != (api.Seg{Src: 0x5678, Dst: 0x1234, Seq: 1000, Ack: 2000, Flags: api.RST | api.ACK}) || b != "" || x != api.OK {
		t.Errorf("back: %#v, %q, %d", h, b, x)
	}
	e, i, body = opened(t, Reset(link(), plain(), seg(), 1000, 2000, false))
	if e != link() || i != (api.IP{Tos: 0x31, ID: 0x4142, TTL: 9, Proto: 6, Src: 0x0a010203, Dst: 0xc0a880fe}) {
		t.Errorf("on: %#v, %#v", e, i)
	}
	h, b, x = tcp.Get(0x0a010203, 0xc0a880fe, body)
	if h != (api.Seg{Src: 0x1234, Dst: 0x5678, Seq: 1000, Ack: 2000, Flags: api.RST | api.ACK}) || b != "" || x != api.OK {
		t.Errorf("on: %#v, %q, %d", h, b, x)
	}
}

// P6.1, Reset: a segment's head has its ports alone in it, so what else may not be in that head does no harm.
func TestResetOfBadSegments(t *testing.T) {
	for _, h := range badSegs() {
		may := 0 <= h.Src && h.Src <= 65535 && 0 <= h.Dst && h.Dst <= 65535
		for _, back := range []bool{false, true} {
			s := Reset(link(), plain(), h, 5, 6, back)
			if may && s != resetBytes(link(), plain(), h, 5, 6, back) {
				t.Errorf("%#v, %v: %q", h, back, s)
			}
			if !may && s != "" {
				t.Errorf("%#v, %v: %d bytes, want none", h, back, len(s))
			}
		}
	}
}

// P6.1, Reset: what it sets in a datagram's head may have been anything; what it leaves must be what may be.
func TestResetOfBadDatagrams(t *testing.T) {
	for _, i := range badNets() {
		kept := api.IP{Tos: i.Tos, ID: i.ID, TTL: i.TTL, Proto: i.Proto}
		turned := api.IP{Tos: i.Tos, Proto: i.Proto}
		for back, left := range map[bool]api.IP{false: kept, true: turned} {
			may := left.Tos|left.TTL|left.Proto == 0 && left.ID == 0
			s := Reset(link(), i, seg(), 5, 6, back)
			if may && s != resetBytes(link(), i, seg(), 5, 6, back) {
				t.Errorf("%#v, %v: %q", i, back, s)
			}
			if !may && s != "" {
				t.Errorf("%#v, %v: %d bytes, want none", i, back, len(s))
			}
		}
	}
}

// unreachableBytes is what tells that a datagram did not come where it goes, written down as the chapter tells it, with this quote.
func unreachableBytes(e api.Eth, i api.IP, quote string) string {
	e = api.Eth{Dst: e.Src, Src: e.Dst, Type: e.Type}
	i = api.IP{Tos: i.Tos, TTL: 64, Proto: 1, Src: i.Dst, Dst: i.Src}
	return frameBytes(e, netBytes(i, toldBytes(quote)))
}

// P6.1, Unreachable: the head, with its options, and at most eight bytes behind it, at every length of options beside every length of body about eight.
func TestUnreachable(t *testing.T) {
	for opts := 0; opts <= 40; opts += 4 {
		i := plain()
		i.Opts = textOf(opts, opts)
		for _, n := range []int{0, 1, 2, 3, 4, 5, 6, 7, 8, 9, 10, 15, 16, 17, 40, 100, 1999, 2000} {
			body := textOf(n, n)
			quote := netBytes(i, body)[:20+opts+min(n, 8)]
			if s := Unreachable(link(), i, body); s != unreachableBytes(link(), i, quote) {
				t.Errorf("options of %d, body of %d: %q", opts, n, s)
			}
		}
	}
}

// P6.1, Unreachable: of every head that may be; the quoted one stands as it came.
func TestUnreachableHeads(t *testing.T) {
	for _, body := range bodies(api.MaxData) {
		for _, i := range nets() {
			quote := netBytes(i, body)[:20+len(i.Opts)+min(len(body), 8)]
			if s := Unreachable(link(), i, body); s != unreachableBytes(link(), i, quote) {
				t.Errorf("%#v, body of %d: %q", i, len(body), s)
			}
		}
		for _, e := range links() {
			quote := netBytes(plain(), body)[:24+min(len(body), 8)]
			if s := Unreachable(e, plain(), body); s != unreachableBytes(e, plain(), quote) {
				t.Errorf("%#v, body of %d: %q", e, len(body), s)
			}
		}
	}
}

// P6.1, Unreachable: field by field, as it is got again.
func TestUnreachableFields(t *testing.T) {
	e, i, body := opened(t, Unreachable(link(), plain(), "abcdefghij"))
	if e != (api.Eth{Dst: link().Src, Src: link().Dst, Type: 0x0800}) || i != (api.IP{Tos: 0x31, TTL: 64, Proto: api.ICMP, Src: 0xc0a880fe, Dst: 0x0a010203}) {
		t.Errorf("%#v, %#v", e, i)
	}
	h, quote, x := dgram.GetICMP(body)
	if h != (api.Dgram{Kind: 3, Code: 3}) || x != api.OK {
		t.Errorf("%#v, %d", h, x)
	}
	if quote != netBytes(plain(), "abcdefghij")[:24]+"abcdefgh" {
		t.Errorf("quote %q", quote)
	}
}

// P6.1, Unreachable: a datagram that ipv4's Put refuses is not quoted, but told; there is no frame only if Back's head may not be either.
func TestUnreachableNone(t *testing.T) {
	for _, n := range tooLong(2000) {
		if s := Unreachable(link(), plain(), textOf(n, n)); s != unreachableBytes(link(), plain(), "") {
			t.Errorf("body of %d: %q", n, s)
		}
	}
	for _, i := range badNets() {
		for _, n := range []int{0, 7, 8, 9, 2000, 2001} {
			s := Unreachable(link(), i, textOf(n, n))
			if i.Tos == 0 && s != unreachableBytes(link(), i, "") {
				t.Errorf("%#v, body of %d: %q", i, n, s)
			}
			if i.Tos != 0 && s != "" {
				t.Errorf("%#v, body of %d: %d bytes, want none", i, n, len(s))
			}
		}
	}
}

// P6.2: a datagram is got again at every length.
func TestDatagramIsGot(t *testing.T) {
	for n := 0; n <= api.MaxData; n++ {
		body := textOf(n, n)
		e, i, b := opened(t, Datagram(link(), plain(), body))
		if e != link() || i != plain() || b != body {
			t.Fatalf("body of %d: %#v, %#v, %d bytes", n, e, i, len(b))
		}
	}
	for _, body := range bodies(api.MaxData) {
		for _, i := range nets() {
			for _, e := range links() {
				f, j, b := opened(t, Datagram(e, i, body))
				if f != e || j != i || b != body {
					t.Fatalf("%#v, %#v, body of %d: %#v, %#v, %d bytes", e, i, len(body), f, j, len(b))
				}
			}
		}
	}
}

// P6.2: a segment is got again at every length.
func TestSegmentIsGot(t *testing.T) {
	got := func(i api.IP, h api.Seg, body string) {
		t.Helper()
		e, j, s := opened(t, Segment(link(), i, h, body))
		g, b, x := tcp.Get(j.Src, j.Dst, s)
		if e != link() || j != i || g != h || b != body || x != api.OK {
			t.Fatalf("%#v, %#v, body of %d: %#v, %#v, %d bytes, %d", i, h, len(body), j, g, len(b), x)
		}
	}
	for n := 0; n <= api.MaxData-20-len(seg().Opts); n++ {
		got(plain(), seg(), textOf(n, n))
	}
	for _, i := range nets() {
		for _, h := range segs() {
			got(i, h, "")
			got(i, h, textOf(api.MaxData-20-len(h.Opts), 3))
		}
	}
}

// P6.2: a reset, and what tells that a datagram is not reached, are got again, of every head that may be.
func TestAnswersAreGot(t *testing.T) {
	for _, i := range nets() {
		for _, h := range segs() {
			for _, back := range []bool{false, true} {
				_, j, s := opened(t, Reset(link(), i, h, h.Ack, h.Seq, back))
				g, b, x := tcp.Get(j.Src, j.Dst, s)
				if g.Seq != h.Ack || g.Ack != h.Seq || g.Flags != 20 || b != "" || x != api.OK {
					t.Fatalf("%#v, %#v, %v: %#v, %q, %d", i, h, back, g, b, x)
				}
			}
		}
		_, j, s := opened(t, Unreachable(link(), i, "12345678 and more"))
		h, quote, x := dgram.GetICMP(s)
		if j.Proto != api.ICMP || h != (api.Dgram{Kind: 3, Code: 3}) || !strings.HasSuffix(quote, i.Opts+"12345678") || x != api.OK {
			t.Fatalf("%#v: %#v, %#v, %q, %d", i, j, h, quote, x)
		}
	}
}

// P6.2: whatever stands in the heads: a frame is made just when both of its layers take it, and is then got again.
func TestAnythingGoes(t *testing.T) {
	x := uint64(1)
	next := func() int {
		x ^= x << 13
		x ^= x >> 7
		x ^= x << 17
		return int(x)
	}
	among := func(vs ...int) int { return vs[uint64(next())%uint64(len(vs))] }
	made := 0
	for range 100000 {
		i := api.IP{
			Tos: among(0, 1, 255, 256, -1), ID: among(0, 7, 65535, 65536, -1), More: next()&64 == 0, Keep: next()&64 == 0,
			Off: among(0, 8, 65528, 65529, 7, -8), TTL: among(0, 64, 255, 256), Proto: among(1, 6, 17, 255, next()),
			Src: uint32(next()), Dst: uint32(next()), Opts: textOf(among(0, 4, 40, 3, 44), next()),
		}
		h := api.Seg{
			Src: among(0, 80, 65535, 65536), Dst: among(0, 80, 65535, -1), Seq: uint32(next()), Ack: uint32(next()),
			Flags: among(0, 20, 63, 64), Win: among(0, 65535, 65536), Opts: textOf(among(0, 4, 40, 41), next()),
		}
		e := api.Eth{Dst: [6]byte{byte(next())}, Src: [6]byte{5: byte(next())}, Type: next() & 65535}
		body := textOf(among(0, 1, 8, 1940, 1980, 1981, 2000, 2001), next())
		back := next()&64 == 0

		if s, fits := Datagram(e, i, body), ipv4.Check(i) && len(body) <= 2000; fits != (s != "") {
			t.Fatalf("Datagram of %#v, body of %d: %d bytes", i, len(body), len(s))
		} else if fits {
			made++
			if f, j, b := opened(t, s); f != e || j != i || b != body {
				t.Fatalf("Datagram of %#v, body of %d: %#v, %d bytes", i, len(body), j, len(b))
			}
		}
		if s, fits := Segment(e, i, h, body), ipv4.Check(i) && tcp.Check(h) && 20+len(h.Opts)+len(body) <= 2000; fits != (s != "") {
			t.Fatalf("Segment of %#v, %#v, body of %d: %d bytes", i, h, len(body), len(s))
		} else if fits {
			made++
			f, j, b := opened(t, s)
			if g, c, x := tcp.Get(i.Src, i.Dst, b); f != e || j != i || g != h || c != body || x != api.OK {
				t.Fatalf("Segment of %#v, %#v, body of %d: %#v, %#v, %d", i, h, len(body), j, g, x)
			}
		}
		if s := Reset(e, i, h, h.Seq, h.Ack, back); s != "" && s != resetBytes(e, i, h, h.Seq, h.Ack, back) {
			t.Fatalf("Reset of %#v, %#v, %v: %q", i, h, back, s)
		}
		if s := Unreachable(e, i, body); (s == "") != (i.Tos < 0 || i.Tos > 255) {
			t.Fatalf("Unreachable of %#v, body of %d: %d bytes", i, len(body), len(s))
		}
	}
	if made < 1000 {
		t.Errorf("%d frames made: too few to tell", made)
	}
}
