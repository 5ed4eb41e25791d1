package cidr

import (
	"fmt"
	"math"
	"slices"
	"strconv"
	"strings"
	"testing"

	"rampart/api"
)

const last = math.MaxUint32 // the last address

// dice is a thrower of numbers, the same ones in each run.
type dice uint64

func (d *dice) next() uint64 {
	*d ^= *d << 13
	*d ^= *d >> 7
	*d ^= *d << 17
	return uint64(*d)
}

// below is a number from 0 on, less than n.
func (d *dice) below(n int) int {
	return int(d.next() >> 11 % uint64(n))
}

// addr is an address of four numbers.
func addr(a, b, c, d uint32) uint32 {
	return a<<24 | b<<16 | c<<8 | d
}

// net is a net.
func net(a uint32, bits int) api.Net {
	return api.Net{Addr: a, Bits: bits}
}

// some is a set of these nets.
func some(l ...api.Net) api.Set {
	return api.Set{Nets: l}
}

// but is all but these nets.
func but(l ...api.Net) api.Set {
	return api.Set{Not: true, Nets: l}
}

// both is these nets, and all but these.
func both(l ...api.Net) []api.Set {
	return []api.Set{some(l...), but(l...)}
}

// same tells whether two sets are one; nil and an empty list are.
func same(s, o api.Set) bool {
	return s.Not == o.Not && slices.Equal(s.Nets, o.Nets)
}

// digits is an address in 32 digits, each 0 or 1.
func digits(a uint32) string {
	b := make([]byte, 32)
	for i := range b {
		b[i] = '0' + byte(a>>(31-i)&1)
	}
	return string(b)
}

// modelOfNet is how the addresses of a net begin, in digits.
func modelOfNet(n api.Net) string {
	return digits(n.Addr)[:n.Bits]
}

// modelCheck is Check by the chapter's words.
func modelCheck(s api.Set) bool {
	right := 0
	for _, n := range s.Nets {
		if 0 <= n.Bits && n.Bits <= 32 {
			right++
		}
	}
	return right == len(s.Nets) && right < 5
}

// modelClean is Clean by how the nets begin, gone through from the shortest on, so that each that stays is in none.
func modelClean(s api.Set) api.Set {
	if !modelCheck(s) {
		return api.Set{}
	}
	stays := make([]bool, len(s.Nets))
	var begun []string
	for bits := range 33 {
		for i, n := range s.Nets {
			b := modelOfNet(n)
			if len(b) != bits || slices.ContainsFunc(begun, func(o string) bool { return strings.HasPrefix(b, o) }) {
				continue
			}
			stays[i] = true
			begun = append(begun, b)
		}
	}
	c := api.Set{Not: s.Not}
	for i, n := range s.Nets {
		if stays[i] {
			v, _ := strconv.ParseUint(modelOfNet(n)+strings.Repeat("0", 32-n.Bits), 2, 32)
			c.Nets = append(c.Nets, net(uint32(v), n.Bits))
		}
	}
	return c
}

// modelHas is Has by how the nets begin.
func modelHas(s api.Set, a uint32) bool {
	if !modelCheck(s) {
		return false
	}
	if len(s.Nets) == 0 {
		return !s.Not
	}
	d := digits(a)
	for _, n := range s.Nets {
		if strings.HasPrefix(d, modelOfNet(n)) {
			return !s.Not
		}
	}
	return s.Not
}

// modelText is Text of the model's clean set.
func modelText(s api.Set) string {
	c := modelClean(s)
	text := "any"
	for i, n := range c.Nets {
		one := fmt.Sprintf("%d.%d.%d.%d/%d", n.Addr/(1<<24), n.Addr/(1<<16)%256, n.Addr/256%256, n.Addr%256, n.Bits)
		switch {
		case i == 0:
			text = one
		default:
			text += "," + one
		}
	}
	if len(c.Nets) > 1 {
		text = "[" + text + "]"
	}
	if c.Not {
		text = "!" + text
	}
	return text
}

// edges is the addresses at which a set may turn: the first and the last of each net, and those right beside them (round the end).
func edges(s api.Set) []uint32 {
	l := []uint32{0, 1, 1 << 31, 1<<31 - 1, last - 1, last}
	for _, n := range s.Nets {
		if n.Bits < 0 || n.Bits > 32 {
			continue
		}
		behind := uint32(1<<(32-n.Bits) - 1)
		from := n.Addr &^ behind
		l = append(l, n.Addr, from-1, from, from+1, from+behind-1, from+behind, from+behind+1)
	}
	return l
}

// asModel tells by the test whether all that is answered of a set is what the model answers, and whether the set is still what it was.
func asModel(t *testing.T, s api.Set) {
	t.Helper()
	was := api.Set{Not: s.Not, Nets: slices.Clone(s.Nets)}
	if got, want := Check(s), modelCheck(was); got != want {
		t.Fatal("Check", was, got)
	}
	c := Clean(s)
	if want := modelClean(was); !same(c, want) {
		t.Fatal("Clean", was, c, want)
	}
	if got, want := Text(s), modelText(was); got != want {
		t.Fatal("Text", was, got, want)
	}
	for _, a := range edges(was) {
		want := modelHas(was, a)
		if got := Has(s, a); got != want {
			t.Fatal("Has", was, digits(a), got)
		}
		if got := Has(c, a); got != want && Check(s) {
			t.Fatal("Has of Clean", was, digits(a), got)
		}
	}
	if !same(s, was) {
		t.Fatal("turned", was, s)
	}
}

// cleans tells by the test what is left of nets, with Not and without.
func cleans(t *testing.T, l []api.Net, want ...api.Net) {
	t.Helper()
	for _, s := range both(l...) {
		if got := Clean(s); got.Not != s.Not || !slices.Equal(got.Nets, want) {
			t.Error(s, got, want)
		}
		asModel(t, s)
	}
}

// isText tells by the test what nets' text is, with Not and without.
func isText(t *testing.T, want string, l ...api.Net) {
	t.Helper()
	if got := Text(some(l...)); got != want {
		t.Error(l, got, want)
	}
	if got := Text(but(l...)); got != "!"+want {
		t.Error(l, got, "!"+want)
	}
}

// refused is sets that may not be.
func refused() []api.Set {
	ten := net(addr(10, 1, 2, 3), 8)
	one := net(addr(1, 2, 3, 4), 32)
	var l []api.Set
	for _, bits := range []int{-1, 33, -8, -31, -32, -33, 34, 40, 63, 64, 65, 255, 256, 264, 1 << 16, 1 << 32, 1<<32 + 8, -1 << 32, 8 - 1<<32, math.MaxInt, math.MinInt, math.MinInt + 8} {
		for _, a := range []uint32{0, 7, ten.Addr, 1 << 31, last} {
			n := net(a, bits)
			l = append(l, both(n)...)
			l = append(l, both(n, ten)...)
			l = append(l, both(ten, n)...)
			l = append(l, both(ten, one, n)...)
			l = append(l, both(net(0, 0), n)...)
			l = append(l, both(n, net(0, 0))...)
			l = append(l, both(ten, one, ten, n)...)
			l = append(l, both(n, one, ten, ten)...)
			l = append(l, both(n, n, n, n)...)
			l = append(l, both(n, n, n, n, n)...)
		}
	}
	for _, n := range []int{5, 6, 8, 9, 100, 256, 1000} {
		l = append(l, both(slices.Repeat([]api.Net{ten}, n)...)...)
		l = append(l, both(slices.Repeat([]api.Net{{}}, n)...)...)
		l = append(l, both(slices.Repeat([]api.Net{one, ten}, n)[:n]...)...)
	}
	return l
}

// P9.1: a set of at most MaxAddrs nets may be, whatever they are; not one of more.
func TestCheckHowMany(t *testing.T) {
	if api.MaxAddrs != 4 {
		t.Fatal(api.MaxAddrs)
	}
	for _, n := range []api.Net{{}, net(addr(10, 1, 2, 3), 8), net(last, 32)} {
		for many := range 20 {
			for _, s := range both(slices.Repeat([]api.Net{n}, many)...) {
				if got, want := Check(s), many <= 4; got != want {
					t.Error(n, many, got)
				}
			}
		}
	}
	// What goes in Clean counts.
	if Check(some(net(1, 32), net(2, 32), net(3, 32), net(4, 32), net(1, 32))) || Check(some(net(0, 0), net(1, 32), net(2, 32), net(3, 32), net(4, 32))) {
		t.Error("five")
	}
	if !Check(api.Set{}) || !Check(api.Set{Nets: []api.Net{}}) || !Check(api.Set{Not: true, Nets: []api.Net{}}) {
		t.Error("none")
	}
}

// P9.1: each Bits from 0 to 32 may be, at each of the nets; none below, none above.
func TestCheckBits(t *testing.T) {
	for bits := -100; bits <= 100; bits++ {
		want := bits >= 0 && bits <= 32
		for many := 1; many <= 4; many++ {
			for at := range many {
				l := slices.Repeat([]api.Net{net(addr(10, 1, 2, 3), 8)}, many)
				l[at].Bits = bits
				for _, s := range both(l...) {
					if got := Check(s); got != want {
						t.Error(s, got)
					}
				}
			}
		}
	}
	for _, a := range []uint32{0, 1, 1 << 31, last} {
		if !Check(some(net(a, 0))) || !Check(some(net(a, 32))) || Check(some(net(a, -1))) || Check(some(net(a, 33))) {
			t.Error(a)
		}
	}
}

// P9.1: of a set that may not be, Clean is empty, Has is false, whatever Not says; Text is of the empty set (P9.2).
func TestRefused(t *testing.T) {
	for _, s := range refused() {
		was := api.Set{Not: s.Not, Nets: slices.Clone(s.Nets)}
		if Check(s) {
			t.Fatal("Check", s)
		}
		if c := Clean(s); c.Not || len(c.Nets) != 0 {
			t.Error("Clean", s, c)
		}
		for _, a := range append(edges(s), addr(10, 1, 2, 3), addr(1, 2, 3, 4), addr(9, 255, 255, 255)) {
			if Has(s, a) {
				t.Error("Has", s, a)
			}
		}
		if got := Text(s); got != "any" {
			t.Error("Text", s, got)
		}
		if !same(s, was) {
			t.Fatal("turned", s, was)
		}
	}
}

// P9.1: Clean makes all bits behind Bits 0, and leaves those ahead.
func TestCleanBits(t *testing.T) {
	for bits := range 33 {
		front := strings.Repeat("1", bits)
		ones, _ := strconv.ParseUint(front+strings.Repeat("0", 32-bits), 2, 32)
		cleans(t, []api.Net{net(last, bits)}, net(uint32(ones), bits))
		cleans(t, []api.Net{net(0, bits)}, net(0, bits))
		for at := range 32 {
			a := uint32(1) << (31 - at)
			if at < bits {
				cleans(t, []api.Net{net(a, bits)}, net(a, bits))
			} else {
				cleans(t, []api.Net{net(a, bits)}, net(0, bits))
			}
		}
	}
	ten := addr(10, 1, 2, 3)
	cleans(t, []api.Net{net(ten, 0)}, net(0, 0))
	cleans(t, []api.Net{net(ten, 1)}, net(0, 1))
	cleans(t, []api.Net{net(ten, 8)}, net(addr(10, 0, 0, 0), 8))
	cleans(t, []api.Net{net(ten, 31)}, net(addr(10, 1, 2, 2), 31))
	cleans(t, []api.Net{net(ten, 32)}, net(ten, 32))
	cleans(t, []api.Net{net(last, 1)}, net(1<<31, 1))
}

// P9.1: no nets stay none, one stays, none of MaxAddrs that have nothing in common goes; Not stays.
func TestCleanHowMany(t *testing.T) {
	cleans(t, nil)
	cleans(t, []api.Net{})
	a, b, c, d := net(addr(10, 0, 0, 0), 8), net(addr(9, 0, 0, 0), 8), net(addr(11, 2, 3, 4), 32), net(addr(8, 0, 0, 0), 31)
	for _, l := range [][]api.Net{{a}, {b}, {a, b}, {b, a}, {a, b, c}, {c, a, b}, {a, b, c, d}, {d, c, b, a}, {b, d, a, c}} {
		cleans(t, l, l...)
	}
}

// P9.1: a net goes that an earlier or a later one has wholly in it; what stays keeps its order.
func TestCleanWithin(t *testing.T) {
	all, eight, other := net(0, 0), net(addr(10, 0, 0, 0), 8), net(addr(11, 0, 0, 0), 8)
	sixteen, one := net(addr(10, 1, 0, 0), 16), net(addr(10, 1, 2, 3), 32)
	cleans(t, []api.Net{eight, sixteen}, eight) // within an earlier one
	cleans(t, []api.Net{sixteen, eight}, eight) // within a later one
	cleans(t, []api.Net{sixteen, other, eight}, other, eight)
	cleans(t, []api.Net{eight, other, sixteen}, eight, other)
	cleans(t, []api.Net{other, sixteen, eight}, other, eight)
	cleans(t, []api.Net{sixteen, eight, other}, eight, other)
	cleans(t, []api.Net{one, sixteen, eight, all}, all)
	cleans(t, []api.Net{all, eight, sixteen, one}, all)
	cleans(t, []api.Net{one, all, sixteen, eight}, all)
	cleans(t, []api.Net{sixteen, one, eight, other}, eight, other)
	cleans(t, []api.Net{other, one, eight, sixteen}, other, eight)
	cleans(t, []api.Net{one, eight, one, other}, eight, other) // within one on either side
	cleans(t, []api.Net{sixteen, eight, sixteen, eight}, eight)
	cleans(t, []api.Net{net(addr(10, 2, 0, 0), 16), sixteen, one}, net(addr(10, 2, 0, 0), 16), sixteen)
	// Bits behind Bits turn nothing of what is within what.
	cleans(t, []api.Net{net(addr(10, 9, 9, 9), 8), net(addr(10, 1, 8, 8), 16)}, eight)
	cleans(t, []api.Net{net(addr(10, 1, 8, 8), 16), net(addr(10, 9, 9, 9), 8)}, eight)
	cleans(t, []api.Net{one, net(last, 0)}, all)
	// Two halves of a net are not the net, nor is a half within the other one.
	cleans(t, []api.Net{net(0, 1), net(1<<31, 1)}, net(0, 1), net(1<<31, 1))
	cleans(t, []api.Net{net(1<<31, 1), net(0, 1)}, net(1<<31, 1), net(0, 1))
	cleans(t, []api.Net{net(6, 32), net(7, 32)}, net(6, 32), net(7, 32))
	cleans(t, []api.Net{net(6, 31), net(8, 31)}, net(6, 31), net(8, 31))
	// A net that begins with the same address, at any two Bits.
	for less := range 33 {
		for more := less + 1; more < 33; more++ {
			for _, a := range []uint32{0, addr(10, 1, 2, 3), last} {
				want := Clean(some(net(a, less))).Nets
				cleans(t, []api.Net{net(a, less), net(a, more)}, want...)
				cleans(t, []api.Net{net(a, more), net(a, less)}, want...)
			}
		}
	}
}

// P9.1: of the same two nets the later one goes, they may be the same but for bits behind Bits.
func TestCleanSame(t *testing.T) {
	a, b := net(addr(10, 0, 0, 0), 8), net(addr(11, 0, 0, 0), 8)
	odd, even := net(addr(10, 255, 255, 255), 8), net(addr(10, 0, 0, 1), 8)
	cleans(t, []api.Net{a, a}, a)
	cleans(t, []api.Net{a, a, a, a}, a)
	cleans(t, []api.Net{a, b, a}, a, b) // the later one, as the order tells
	cleans(t, []api.Net{b, a, b}, b, a)
	cleans(t, []api.Net{a, b, b, a}, a, b)
	cleans(t, []api.Net{b, a, b, a}, b, a)
	cleans(t, []api.Net{odd, b, even}, a, b)
	cleans(t, []api.Net{odd, even}, a)
	cleans(t, []api.Net{even, a, odd, b}, a, b)
	cleans(t, []api.Net{b, even, odd, a}, b, a)
	cleans(t, []api.Net{net(5, 0), net(last, 0)}, net(0, 0))
	cleans(t, []api.Net{net(7, 31), net(6, 31)}, net(6, 31))
	cleans(t, []api.Net{net(7, 32), net(7, 32)}, net(7, 32))
	for bits := range 33 {
		n := net(last, bits)
		cleans(t, []api.Net{n, n}, Clean(some(n)).Nets...)
		cleans(t, []api.Net{net(0, bits), net(uint32(1<<(32-bits)-1), bits)}, net(0, bits))
	}
}

// P9.1: an address is one of a set from the first of a net to its last, and not those right beside; turned, if Not.
func TestHasEdges(t *testing.T) {
	for _, c := range []struct {
		n        api.Net
		from, to uint32
	}{
		{net(addr(10, 1, 2, 3), 8), addr(10, 0, 0, 0), addr(10, 255, 255, 255)},
		{net(addr(192, 168, 1, 77), 24), addr(192, 168, 1, 0), addr(192, 168, 1, 255)},
		{net(addr(192, 168, 1, 77), 30), addr(192, 168, 1, 76), addr(192, 168, 1, 79)},
		{net(7, 31), 6, 7}, {net(6, 31), 6, 7}, {net(7, 32), 7, 7}, {net(0, 32), 0, 0}, {net(last, 32), last, last},
		{net(last, 31), last - 1, last}, {net(5, 1), 0, 1<<31 - 1}, {net(last, 1), 1 << 31, last}, {net(5, 0), 0, last}, {net(last, 0), 0, last},
	} {
		far := net(addr(77, 77, 77, 77), 32)
		for _, l := range [][]api.Net{{c.n}, {c.n, c.n}, {c.n, far}, {far, c.n}, {far, far, far, c.n}} {
			hasEach(t, l, true, c.from, c.to)
			if c.from > 0 {
				hasEach(t, l, false, c.from-1, 0)
			}
			if c.to < last {
				hasEach(t, l, false, c.to+1, last)
			}
		}
	}
}

// hasEach tells by the test whether each address is one of these nets, or is none; turned, if Not.
func hasEach(t *testing.T, l []api.Net, want bool, these ...uint32) {
	t.Helper()
	for _, a := range these {
		if Has(some(l...), a) != want || Has(but(l...), a) == want {
			t.Error(l, digits(a), want)
		}
	}
}

// P9.1: of no nets each address is one; none, if Not.
func TestHasNone(t *testing.T) {
	for _, a := range []uint32{0, 1, addr(10, 0, 0, 0), 1<<31 - 1, 1 << 31, last} {
		for _, l := range [][]api.Net{nil, {}} {
			if !Has(some(l...), a) || Has(but(l...), a) {
				t.Error(a)
			}
		}
	}
}

// P9.1: each bit ahead of Bits tells, and none behind.
func TestHasEachBit(t *testing.T) {
	for bits := range 33 {
		for _, a := range []uint32{0, addr(10, 1, 2, 3), addr(170, 85, 170, 85), last} {
			n := net(a, bits)
			if !Has(some(n), a) || Has(but(n), a) {
				t.Error(n)
			}
			for at := range 32 {
				other := a ^ 1<<(31-at)
				if got, want := Has(some(n), other), at >= bits; got != want || Has(but(n), other) == want {
					t.Error(n, at, got)
				}
			}
		}
	}
}

// P9.1: one net that has it is enough, whichever of them.
func TestHasSeveral(t *testing.T) {
	l := []api.Net{net(addr(10, 0, 0, 0), 8), net(addr(192, 168, 0, 0), 16), net(addr(1, 2, 3, 4), 32), net(addr(10, 1, 0, 0), 16)}
	for a, want := range map[uint32]bool{addr(10, 0, 0, 0): true, addr(10, 1, 7, 7): true, addr(192, 168, 255, 255): true, addr(1, 2, 3, 4): true, addr(1, 2, 3, 5): false, addr(192, 169, 0, 0): false, addr(9, 255, 255, 255): false, 0: false, last: false} {
		if Has(some(l...), a) != want || Has(but(l...), a) == want {
			t.Error(digits(a))
		}
	}
}

// P9.2: an address's four numbers, each as it is.
func TestDotted(t *testing.T) {
	for a, want := range map[uint32]string{
		0: "0.0.0.0", last: "255.255.255.255", addr(1, 2, 3, 10): "1.2.3.10", addr(192, 168, 0, 1): "192.168.0.1", addr(10, 100, 20, 200): "10.100.20.200",
		1: "0.0.0.1", 256: "0.0.1.0", 1 << 16: "0.1.0.0", 1 << 24: "1.0.0.0", 1 << 31: "128.0.0.0", 1<<31 - 1: "127.255.255.255",
	} {
		if got := Dotted(a); got != want {
			t.Error(a, got, want)
		}
	}
	for v := range uint32(256) {
		w := 255 - v
		if got, want := Dotted(addr(v, w, v/2, w/2)), fmt.Sprintf("%d.%d.%d.%d", v, w, v/2, w/2); got != want {
			t.Error(got, want)
		}
	}
}

// P9.2, the example.
func TestExample(t *testing.T) {
	if got := Text(some(net(addr(10, 1, 2, 3), 8))); got != "10.0.0.0/8" {
		t.Error(got)
	}
}

// P9.2: the text of no nets, of one, of several.
func TestText(t *testing.T) {
	ten, eleven := net(addr(10, 1, 2, 3), 8), net(addr(11, 0, 0, 0), 8)
	isText(t, "any")
	isText(t, "any", []api.Net{}...)
	isText(t, "10.0.0.0/8", ten)
	isText(t, "0.0.0.0/0", net(last, 0)) // all addresses by name, though no nets say the same
	isText(t, "0.0.0.0/0", api.Net{})
	isText(t, "128.0.0.0/1", net(last, 1))
	isText(t, "255.255.255.254/31", net(last, 31))
	isText(t, "255.255.255.255/32", net(last, 32))
	isText(t, "0.0.0.0/32", net(0, 32))
	isText(t, "[10.0.0.0/8,11.0.0.0/8]", ten, eleven)
	isText(t, "[11.0.0.0/8,10.0.0.0/8]", eleven, ten)
	isText(t, "[11.0.0.0/8,10.0.0.0/8,1.2.3.4/32]", eleven, ten, net(addr(1, 2, 3, 4), 32))
	isText(t, "[0.0.0.4/32,0.0.0.3/32,0.0.0.1/32,0.0.0.2/32]", net(4, 32), net(3, 32), net(1, 32), net(2, 32))
	// Of several of which one stays, and of several of which several do.
	isText(t, "10.0.0.0/8", ten, ten)
	isText(t, "10.0.0.0/8", net(addr(10, 1, 2, 3), 32), ten, ten, net(addr(10, 7, 0, 0), 16))
	isText(t, "[11.0.0.0/8,10.0.0.0/8]", net(addr(10, 1, 2, 3), 32), eleven, ten, eleven)
	isText(t, "0.0.0.0/0", ten, eleven, net(7, 0))
}

// pool is nets within each other, beside each other, the same, and the same but for bits behind Bits.
func pool() []api.Net {
	return []api.Net{
		net(0, 0), net(last, 0), net(0, 1), net(last, 1), net(addr(10, 1, 2, 3), 8), net(addr(10, 0, 0, 0), 8), net(addr(11, 0, 0, 0), 8), net(addr(10, 0, 0, 0), 7), net(addr(10, 1, 0, 0), 16),
		net(addr(10, 1, 2, 3), 32), net(addr(10, 1, 2, 2), 31), net(addr(10, 1, 2, 3), 31), net(addr(10, 1, 2, 2), 32), net(last, 32), net(0, 32),
	}
}

// P9.1, P9.2, P9.3: all sets of up to MaxAddrs nets of a few.
func TestAllOfFew(t *testing.T) {
	level := [][]api.Net{nil}
	for many := range api.MaxAddrs + 1 {
		var longer [][]api.Net
		for _, l := range level {
			asModel(t, some(l...))
			asModel(t, but(l...))
			if many == api.MaxAddrs {
				continue
			}
			for _, n := range pool() {
				longer = append(longer, append(slices.Clone(l), n))
			}
		}
		level = longer
	}
}

// P9.1, P9.2, P9.3: sets thrown together, their addresses near each other, here and there one that may not be.
func TestThrown(t *testing.T) {
	d := dice(2463534242)
	for range 40000 {
		base := uint32(d.next())
		l := make([]api.Net, d.below(api.MaxAddrs+2))
		for i := range l {
			l[i] = net(base, d.below(33))
			switch d.below(4) {
			case 0:
				l[i].Addr = uint32(d.next())
			case 1:
				l[i].Addr ^= 1 << d.below(32)
			case 2:
				l[i].Addr ^= uint32(d.next()) >> d.below(32)
			}
			if d.below(40) == 0 {
				l[i].Bits = d.below(70) - 20
			}
		}
		asModel(t, api.Set{Not: d.below(2) == 0, Nets: l})
	}
}

// P9.3: Clean turns nothing of what a set has, of each address of a span in which the nets lie.
func TestCleanHasSame(t *testing.T) {
	d := dice(88172645463325252)
	for range 3000 {
		l := make([]api.Net, d.below(api.MaxAddrs+1))
		for i := range l {
			l[i] = net(addr(10, 0, 0, uint32(d.below(256))), 23+d.below(10))
		}
		for _, s := range both(l...) {
			c := Clean(s)
			if !Check(c) || !same(Clean(c), c) {
				t.Fatal(s, c)
			}
			for a := addr(9, 255, 255, 250); a < addr(10, 0, 2, 5); a++ {
				if Has(s, a) != Has(c, a) {
					t.Fatal(s, c, digits(a))
				}
			}
		}
	}
}

// P9.1, P9.2, R3: a set that is handed in stays what it was, spare room of its list too, whether it may be or not.
func TestHandedInStays(t *testing.T) {
	sets := append(refused(), some(), but())
	for _, n := range pool() {
		for _, o := range pool() {
			sets = append(sets, both(n, o)...)
			sets = append(sets, both(o, n, o, n)...)
		}
	}
	for _, s := range sets {
		spare := append(slices.Clone(s.Nets), pool()...)
		was := slices.Clone(spare)
		x := api.Set{Not: s.Not, Nets: spare[:len(s.Nets)]}
		Check(x)
		Clean(x)
		Has(x, addr(10, 1, 2, 3))
		Text(x)
		if !same(x, s) || !slices.Equal(spare, was) {
			t.Fatal(s, x)
		}
	}
}

// R3: a list that Clean answers is new memory, spare room too: nothing of it is the list handed in, nor that of another answer.
func TestNewMemory(t *testing.T) {
	for many := range api.MaxAddrs + 1 {
		l := []api.Net{net(addr(10, 0, 0, 0), 8), net(addr(11, 0, 0, 0), 8), net(addr(12, 0, 0, 0), 8), net(addr(13, 0, 0, 0), 8)}
		s := some(l[:many]...)
		was := slices.Clone(s.Nets)
		one, other := Clean(s), Clean(s)
		again := Clean(one)
		clear(one.Nets[:cap(one.Nets)])
		_ = append(one.Nets, net(7, 7))
		if !slices.Equal(s.Nets, was) || !slices.Equal(other.Nets, was) || !slices.Equal(again.Nets, was) || len(l) > many && l[many].Addr != addr(10+uint32(many), 0, 0, 0) {
			t.Error(many, s, other, again)
		}
		clear(l)
		if !slices.Equal(other.Nets, was) {
			t.Error(many, "kept", other)
		}
	}
}

// R4: what is answered hangs on the set alone, not on what was asked before.
func TestAskedAgain(t *testing.T) {
	s := but(net(addr(10, 1, 2, 3), 8), net(7, 32))
	for range 3 {
		if !same(Clean(s), but(net(addr(10, 0, 0, 0), 8), net(7, 32))) || Has(s, 7) || !Has(s, 8) || Text(s) != "![10.0.0.0/8,0.0.0.7/32]" || Dotted(7) != "0.0.0.7" {
			t.Error(Clean(s), Text(s))
		}
		for _, r := range refused() {
			Clean(r)
			Has(r, 7)
			Text(r)
		}
	}
}
