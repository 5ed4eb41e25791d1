package ports

import (
	"bytes"
	"fmt"
	"math"
	"slices"
	"testing"

	"rampart/api"
)

const many = 65536 // how many ports there are

// thrower throws numbers from 0 on, less than what it is asked, the same ones in each run.
func thrower() func(below int) int {
	state := uint64(2463534242)
	return func(below int) int {
		state = state*6364136223846793005 + 1442695040888963407
		return int(state >> 33 % uint64(below))
	}
}

// spans is spans, From and To of each one behind the other.
func spans(ends ...int) []api.Span {
	var l []api.Span
	for pair := range slices.Chunk(ends, 2) {
		l = append(l, api.Span{From: pair[0], To: pair[1]})
	}
	return l
}

// both is these spans, and all but these.
func both(l []api.Span) []api.Ports {
	return []api.Ports{{Spans: l}, {Not: true, Spans: l}}
}

// same tells whether two sets are one; nil and an empty list are.
func same(p, o api.Ports) bool {
	return p.Not == o.Not && slices.Equal(p.Spans, o.Spans)
}

// copied is a set of its own that is the same.
func copied(p api.Ports) api.Ports {
	return api.Ports{Not: p.Not, Spans: slices.Clone(p.Spans)}
}

// modelCheck is Check by the chapter's words.
func modelCheck(p api.Ports) bool {
	right := 0
	for _, s := range p.Spans {
		if 0 <= s.From && s.From <= s.To && s.To <= 65535 {
			right++
		}
	}
	return right == len(p.Spans) && right < 5
}

// paint is all ports, each a byte: x for one of the spans (of a set that may not be: none), a point for another one.
func paint(p api.Ports) []byte {
	b := bytes.Repeat([]byte("."), many)
	if !modelCheck(p) {
		return b
	}
	for _, s := range p.Spans {
		for n := s.From; n <= s.To; n++ {
			b[n] = 'x'
		}
	}
	return b
}

// modelClean is Clean read off its painted ports.
func modelClean(p api.Ports, paint []byte) api.Ports {
	if !modelCheck(p) {
		return api.Ports{}
	}
	c := api.Ports{Not: p.Not}
	for n := 0; n < many; {
		ahead := bytes.IndexByte(paint[n:], 'x')
		if ahead < 0 {
			break
		}
		from := n + ahead
		n = many
		if long := bytes.IndexByte(paint[from:], '.'); long >= 0 {
			n = from + long
		}
		c.Spans = append(c.Spans, api.Span{From: from, To: n - 1})
	}
	if len(c.Spans) == 1 && c.Spans[0].From == 0 && c.Spans[0].To == many-1 {
		c.Spans = nil
	}
	return c
}

// modelHas is Has read off its painted ports.
func modelHas(p api.Ports, paint []byte, n int) bool {
	switch {
	case !modelCheck(p), n < 0, n > 65535:
		return false
	case len(p.Spans) == 0:
		return !p.Not
	case p.Not:
		return paint[n] == '.'
	}
	return paint[n] == 'x'
}

// modelText is Text of the model's clean set.
func modelText(c api.Ports) string {
	text := ""
	for i, s := range c.Spans {
		if i > 0 {
			text += ","
		}
		text += fmt.Sprint(s.From)
		if s.To > s.From {
			text += fmt.Sprintf("-%d", s.To)
		}
	}
	switch len(c.Spans) {
	case 0:
		text = "any"
	case 1:
	default:
		text = "[" + text + "]"
	}
	if c.Not {
		return "!" + text
	}
	return text
}

// noPorts is numbers that are no port, among them such as are one in fewer bits.
func noPorts() []int {
	return []int{-1, -2, -80, 80 - many, -many, many, many + 1, many + 80, 80 + 1<<32, 80 - 1<<32, math.MaxInt32, math.MinInt32, math.MaxInt, math.MinInt, math.MinInt + 80}
}

// edges is the ports at which a set may turn, those right beside them, and numbers that are none.
func edges(p api.Ports) []int {
	l := append(noPorts(), 0, 1, 80, 65534, 65535)
	for _, s := range p.Spans {
		l = append(l, s.From-1, s.From, s.From+1, s.To-1, s.To, s.To+1)
	}
	return l
}

// asModel tells by the test whether all that is answered of a set is what the model answers, and whether the set is still what it was.
func asModel(t *testing.T, p api.Ports) {
	t.Helper()
	was := copied(p)
	right, painted := modelCheck(was), paint(was)
	want := modelClean(was, painted)
	if got := Check(p); got != right {
		t.Fatal("Check", was, got)
	}
	c := Clean(p)
	if !same(c, want) {
		t.Fatal("Clean", was, c, want)
	}
	if again := Clean(c); !same(again, c) {
		t.Fatal("Clean of Clean", was, c, again)
	}
	if got := Text(p); got != modelText(want) {
		t.Fatal("Text", was, got, modelText(want))
	}
	for _, n := range edges(was) {
		want := modelHas(was, painted, n)
		if got := Has(p, n); got != want {
			t.Fatal("Has", was, n, got)
		}
		if got := Has(c, n); right && got != want {
			t.Fatal("Has of Clean", was, n, got)
		}
	}
	if !same(p, was) {
		t.Fatal("turned", was, p)
	}
}

// cleans tells by the test what is left of spans, with Not and without.
func cleans(t *testing.T, l []api.Span, want ...int) {
	t.Helper()
	for _, p := range both(l) {
		if got := Clean(p); got.Not != p.Not || !slices.Equal(got.Spans, spans(want...)) {
			t.Error(p, got, want)
		}
		asModel(t, p)
	}
}

// isText tells by the test what spans' text is, with Not and without.
func isText(t *testing.T, want string, ends ...int) {
	t.Helper()
	l := spans(ends...)
	if got := Text(api.Ports{Spans: l}); got != want {
		t.Error(l, got, want)
	}
	if got := Text(api.Ports{Not: true, Spans: l}); got != "!"+want {
		t.Error(l, got, "!"+want)
	}
}

// hasEach tells by the test whether each port is one of these spans, or is none; turned, if Not.
func hasEach(t *testing.T, l []api.Span, want bool, these ...int) {
	t.Helper()
	for _, n := range these {
		if Has(api.Ports{Spans: l}, n) != want || Has(api.Ports{Not: true, Spans: l}, n) == want {
			t.Error(l, n, want)
		}
	}
}

// wrong is spans that may not be.
func wrong() []api.Span {
	l := spans(-1, -1, -1, 0, -1, 80, -1, 65535, -80, -1, 1, 0, 80, 79, 65535, 65534, 65535, 0, 0, -1, 65535, 65536, 0, 65536, 65536, 65536, 80, 65536, 65537, 70000)
	for _, n := range noPorts() {
		l = append(l, spans(n, 80, 80, n, n, n, 0, n, n, 65535)...)
	}
	return l
}

// refused is sets that may not be.
func refused() []api.Ports {
	one, all := api.Span{From: 70, To: 90}, api.Span{To: 65535}
	var l []api.Ports
	for _, w := range wrong() {
		for _, x := range [][]api.Span{{w}, {w, w}, {one, w}, {w, one}, {all, w}, {w, all}, {one, all, w}, {one, one, one, w}, {w, one, one, one}, {one, w, all, one}, {w, w, w, w}, {one, one, one, one, w}} {
			l = append(l, both(x)...)
		}
	}
	for _, n := range []int{5, 6, 8, 9, 100, 256, 1000} {
		for _, s := range []api.Span{{}, one, all} {
			l = append(l, both(slices.Repeat([]api.Span{s}, n))...)
		}
	}
	return l
}

// P10.1: a set of at most MaxPorts spans may be, whatever they are; not one of more, though fewer would be left of them.
func TestCheckHowMany(t *testing.T) {
	if api.MaxPorts != 4 {
		t.Fatal(api.MaxPorts)
	}
	for _, s := range spans(0, 0, 80, 80, 70, 90, 0, 65535, 65535, 65535) {
		for n := range 20 {
			for _, p := range both(slices.Repeat([]api.Span{s}, n)) {
				if got, want := Check(p), n <= 4; got != want {
					t.Error(s, n, got)
				}
			}
		}
	}
	for _, l := range [][]api.Span{spans(1, 1, 2, 2, 3, 3, 4, 4, 5, 5), spans(1, 1, 3, 3, 5, 5, 7, 7, 9, 9), spans(0, 65535, 1, 1, 3, 3, 5, 5, 7, 7)} {
		for _, p := range both(l) {
			if Check(p) || !Check(api.Ports{Not: p.Not, Spans: l[:4]}) {
				t.Error(p)
			}
		}
	}
	if !Check(api.Ports{}) || !Check(api.Ports{Not: true}) || !Check(api.Ports{Spans: []api.Span{}}) || !Check(api.Ports{Not: true, Spans: []api.Span{}}) {
		t.Error("none")
	}
}

// P10.1: each span from 0 on, its From at most its To, its To at most 65535, at each of the places.
func TestCheckSpan(t *testing.T) {
	ends := []int{-65536, -2, -1, 0, 1, 2, 79, 80, 81, 32767, 32768, 65534, 65535, 65536, 65537, 131071, math.MaxInt32, 1 << 32, math.MaxInt, math.MinInt}
	for _, from := range ends {
		for _, to := range ends {
			want := from >= 0 && from <= to && to <= 65535
			for n := range 4 {
				for at := range n + 1 {
					l := slices.Repeat(spans(70, 90), n+1)
					l[at] = api.Span{From: from, To: to}
					for _, p := range both(l) {
						if got := Check(p); got != want {
							t.Error(p, got)
						}
					}
				}
			}
		}
	}
}

// P10.1: of a set that may not be, Clean is empty, Has is false, whatever Not says; Text is of the empty set (P10.2).
func TestRefused(t *testing.T) {
	for _, p := range refused() {
		was := copied(p)
		if Check(p) {
			t.Fatal("Check", p)
		}
		if c := Clean(p); c.Not || len(c.Spans) != 0 {
			t.Error("Clean", p, c)
		}
		for _, n := range append(edges(p), 69, 70, 90, 91) {
			if Has(p, n) {
				t.Error("Has", p, n)
			}
		}
		if got := Text(p); got != "any" {
			t.Error("Text", p, got)
		}
		if !same(p, was) {
			t.Fatal("turned", was, p)
		}
	}
}

// P10.1: no spans stay none, one stays, none of MaxPorts that leave ports between them goes; Not stays.
func TestCleanHowMany(t *testing.T) {
	cleans(t, nil)
	cleans(t, []api.Span{})
	for _, one := range [][]int{{80, 80}, {70, 90}, {0, 0}, {65535, 65535}, {0, 65534}, {1, 65535}, {1, 65534}, {0, 1}, {65534, 65535}} {
		cleans(t, spans(one...), one...)
	}
	cleans(t, spans(1, 2, 4, 9), 1, 2, 4, 9)
	cleans(t, spans(1, 1, 3, 3, 5, 5), 1, 1, 3, 3, 5, 5)
	cleans(t, spans(0, 0, 2, 2, 65533, 65533, 65535, 65535), 0, 0, 2, 2, 65533, 65533, 65535, 65535)
	cleans(t, spans(0, 10, 20, 30, 40, 50, 60, 65535), 0, 10, 20, 30, 40, 50, 60, 65535)
}

// P10.1: what is left is rising, in whatever order it is handed in.
func TestCleanRises(t *testing.T) {
	cleans(t, spans(4, 9, 1, 2), 1, 2, 4, 9)
	cleans(t, spans(65535, 65535, 0, 0), 0, 0, 65535, 65535)
	cleans(t, spans(60, 70, 40, 50, 20, 30, 0, 10), 0, 10, 20, 30, 40, 50, 60, 70)
	cleans(t, spans(100, 100, 20, 20, 9, 9, 3000, 3000), 9, 9, 20, 20, 100, 100, 3000, 3000) // by number, not as texts
	cleans(t, spans(40, 50, 0, 10, 60, 70, 20, 30), 0, 10, 20, 30, 40, 50, 60, 70)
	cleans(t, spans(9, 9, 8, 8, 7, 7, 6, 6), 6, 9)
}

// P10.1: spans that overlap are one, either way round, and by one port too.
func TestCleanOverlap(t *testing.T) {
	cleans(t, spans(1, 6, 5, 9), 1, 9)
	cleans(t, spans(5, 9, 1, 6), 1, 9)
	cleans(t, spans(1, 5, 5, 9), 1, 9)
	cleans(t, spans(5, 9, 1, 5), 1, 9)
	cleans(t, spans(1, 5, 5, 5), 1, 5)
	cleans(t, spans(5, 5, 5, 9), 5, 9)
	cleans(t, spans(1, 4, 3, 6, 5, 8, 7, 10), 1, 10)
	cleans(t, spans(7, 10, 1, 4, 5, 8, 3, 6), 1, 10)
	cleans(t, spans(1, 4, 7, 10, 3, 8), 1, 10) // the last one closes a gap
	cleans(t, spans(10, 20, 10, 30, 40, 50, 35, 39), 10, 30, 35, 50)
}

// P10.1: spans that touch are one; those that leave one port between them are not.
func TestCleanTouch(t *testing.T) {
	cleans(t, spans(1, 3, 4, 9), 1, 9)
	cleans(t, spans(4, 9, 1, 3), 1, 9)
	cleans(t, spans(3, 3, 4, 4), 3, 4)
	cleans(t, spans(1, 1, 2, 2, 3, 3, 4, 4), 1, 4)
	cleans(t, spans(0, 0, 1, 1), 0, 1)
	cleans(t, spans(65535, 65535, 65534, 65534), 65534, 65535)
	cleans(t, spans(1, 3, 5, 9), 1, 3, 5, 9)
	cleans(t, spans(5, 9, 1, 3), 1, 3, 5, 9)
	cleans(t, spans(0, 0, 2, 2), 0, 0, 2, 2)
	cleans(t, spans(65533, 65533, 65535, 65535), 65533, 65533, 65535, 65535)
	cleans(t, spans(1, 3, 5, 9, 4, 4), 1, 9)
	cleans(t, spans(1, 3, 10, 12, 4, 9, 14, 14), 1, 12, 14, 14)
	for gap := range 4 {
		l := spans(10, 20, 21+gap, 30)
		if gap == 0 {
			cleans(t, l, 10, 30)
		} else {
			cleans(t, l, 10, 20, 21+gap, 30)
		}
	}
}

// P10.1: a span within another one goes, wherever it lies in it; of the same twice one stays.
func TestCleanWithin(t *testing.T) {
	for _, inner := range [][]int{{10, 10}, {20, 20}, {15, 15}, {10, 15}, {15, 20}, {11, 19}, {10, 20}} {
		cleans(t, spans(10, 20, inner[0], inner[1]), 10, 20)
		cleans(t, spans(inner[0], inner[1], 10, 20), 10, 20)
		cleans(t, spans(inner[0], inner[1], 30, 40, 10, 20), 10, 20, 30, 40)
		cleans(t, spans(10, 20, 30, 40, inner[0], inner[1], inner[0], inner[1]), 10, 20, 30, 40)
	}
	cleans(t, spans(80, 80, 80, 80), 80, 80)
	cleans(t, spans(80, 80, 80, 80, 80, 80, 80, 80), 80, 80)
	cleans(t, spans(80, 80, 22, 22, 80, 80), 22, 22, 80, 80)
	cleans(t, spans(1, 100, 2, 50, 3, 20, 4, 10), 1, 100)
	cleans(t, spans(4, 10, 3, 20, 2, 50, 1, 100), 1, 100)
	cleans(t, spans(1, 10, 2, 3, 9, 12, 13, 13), 1, 13)
}

// P10.1: spans that together are all ports are none, with Not and without; one port less is not all.
func TestCleanAll(t *testing.T) {
	for _, l := range [][]api.Span{
		spans(0, 65535), spans(0, 65535, 0, 65535), spans(0, 65535, 80, 80), spans(80, 80, 0, 65535), spans(0, 30000, 30001, 65535), spans(30001, 65535, 0, 30000),
		spans(0, 40000, 20000, 65535), spans(0, 0, 1, 65534, 65535, 65535), spans(1, 65535, 0, 0), spans(0, 65534, 65535, 65535), spans(49152, 65535, 32768, 49151, 16384, 32767, 0, 16383),
	} {
		cleans(t, l)
		for _, p := range both(l) {
			for _, n := range []int{0, 1, 80, 30000, 30001, 65534, 65535} {
				if Has(p, n) == p.Not || Has(Clean(p), n) == p.Not {
					t.Error(p, n)
				}
			}
		}
		isText(t, "any", endsOf(l)...)
	}
	cleans(t, spans(0, 65534), 0, 65534)
	cleans(t, spans(1, 65535), 1, 65535)
	cleans(t, spans(0, 79, 81, 65535), 0, 79, 81, 65535)
	cleans(t, spans(1, 30000, 30001, 65535), 1, 65535)
	cleans(t, spans(0, 30000, 30002, 65535), 0, 30000, 30002, 65535)
}

// endsOf is From and To of each span, one behind the other.
func endsOf(l []api.Span) []int {
	var ends []int
	for _, s := range l {
		ends = append(ends, s.From, s.To)
	}
	return ends
}

// P10.1: a port is one of a set from the first of a span to its last, and not those right beside; turned, if Not.
func TestHasEdges(t *testing.T) {
	far := api.Span{From: 40000, To: 40000}
	for _, s := range spans(5, 7, 80, 80, 0, 0, 0, 10, 65535, 65535, 65000, 65535, 1, 65534, 0, 65535, 32767, 32768) {
		for _, l := range [][]api.Span{{s}, {s, s}, {s, far}, {far, s}, {far, far, far, s}} {
			hasEach(t, l, true, s.From, s.To, (s.From+s.To)/2)
			for _, n := range []int{s.From - 1, s.To + 1} {
				if n >= 0 && n <= 65535 {
					hasEach(t, l, false, n)
				}
			}
		}
	}
	hasEach(t, spans(5, 7), false, 0, 65535)
	hasEach(t, spans(0, 0, 65535, 65535), true, 0, 65535)
	hasEach(t, spans(0, 0, 65535, 65535), false, 1, 65534)
	hasEach(t, spans(1, 65534), false, 0, 65535)
}

// P10.1: of no spans each port is one; none, if Not.
func TestHasNone(t *testing.T) {
	for _, l := range [][]api.Span{nil, {}} {
		for n := range many {
			hasEach(t, l, true, n)
		}
	}
}

// P10.1: one span that has it is enough, whichever of them; of many, each is asked.
func TestHasSeveral(t *testing.T) {
	l := spans(100, 200, 20, 30, 150, 300, 9, 9)
	hasEach(t, l, true, 100, 200, 20, 25, 30, 150, 201, 300, 9)
	hasEach(t, l, false, 0, 8, 10, 19, 31, 99, 301, 65535)
	for n := range many {
		hasEach(t, l, n == 9 || n >= 20 && n <= 30 || n >= 100 && n <= 300, n)
	}
}

// P10.1: a number that is no port is none of any set, with Not and without.
func TestHasNoPort(t *testing.T) {
	for _, n := range noPorts() {
		for _, l := range [][]api.Span{nil, {}, spans(80, 80), spans(0, 0), spans(65535, 65535), spans(0, 65535), spans(1, 79, 81, 65534)} {
			for _, p := range both(l) {
				if Has(p, n) {
					t.Error(p, n)
				}
			}
		}
	}
}

// P10.2, the example.
func TestExample(t *testing.T) {
	if got := Text(api.Ports{Spans: spans(1, 3, 4, 9)}); got != "1-9" {
		t.Error(got)
	}
}

// P10.2: the text of none, of one, of several, of a span of one port; each with Not and without.
func TestText(t *testing.T) {
	isText(t, "any")
	if got := Text(api.Ports{Not: true, Spans: []api.Span{}}); got != "!any" {
		t.Error(got)
	}
	isText(t, "80", 80, 80)
	isText(t, "0", 0, 0)
	isText(t, "65535", 65535, 65535)
	isText(t, "1-9", 1, 9)
	isText(t, "0-1", 0, 1)
	isText(t, "0-65534", 0, 65534)
	isText(t, "1-65535", 1, 65535)
	isText(t, "[80,443]", 80, 80, 443, 443)
	isText(t, "[1-2,4-9]", 1, 2, 4, 9)
	isText(t, "[0,65535]", 0, 0, 65535, 65535)
	isText(t, "[1-2,4,6-9]", 1, 2, 4, 4, 6, 9)
	isText(t, "[1,3,5-7,9]", 1, 1, 3, 3, 5, 7, 9, 9)
}

// P10.2: the text is Clean's: spans that are one are told as one, all ports as any, all in rising order.
func TestTextOfClean(t *testing.T) {
	isText(t, "[1-2,4-9]", 4, 9, 1, 2)
	isText(t, "1-9", 5, 9, 1, 6, 3, 4)
	isText(t, "80", 80, 80, 80, 80)
	isText(t, "8-9", 9, 9, 8, 8)
	isText(t, "[9,100]", 100, 100, 9, 9)
	isText(t, "[10-30,35-50]", 10, 20, 10, 30, 40, 50, 35, 39)
	isText(t, "any", 0, 65535)
	isText(t, "any", 40000, 65535, 0, 39999)
}

// P10.1, P10.2, P10.3: all sets of up to MaxPorts spans of a few, among them spans that overlap, touch, leave one port between them, are one within another.
func TestAllOfFew(t *testing.T) {
	pool := spans(0, 65535, 0, 0, 0, 2, 1, 1, 2, 4, 3, 3, 4, 6, 5, 65534, 65535, 65535)
	level := [][]api.Span{nil}
	for n := range api.MaxPorts + 1 {
		var longer [][]api.Span
		for _, l := range level {
			for _, p := range both(l) {
				asModel(t, p)
			}
			if n == api.MaxPorts {
				continue
			}
			for _, s := range pool {
				longer = append(longer, append(slices.Clone(l), s))
			}
		}
		level = longer
	}
}

// P10.1, P10.2, P10.3: sets thrown together, their spans near each other or anywhere, here and there one that may not be.
func TestThrown(t *testing.T) {
	throw := thrower()
	for range 20000 {
		l := make([]api.Span, throw(api.MaxPorts+2))
		base, width := throw(many), 1+throw(20)
		for i := range l {
			from := min(base+throw(2*width), 65535)
			l[i] = api.Span{From: from, To: min(from+throw(width), 65535)}
			switch throw(40) {
			case 0:
				l[i].From = throw(many)
			case 1:
				l[i].To = throw(many + 5)
			case 2:
				l[i].From = -throw(3)
			}
		}
		asModel(t, api.Ports{Not: throw(2) == 0, Spans: l})
	}
}

// P10.3: Clean turns nothing of what a set has, whichever port, and is itself clean.
func TestCleanHasSame(t *testing.T) {
	throw := thrower()
	for range 100 {
		l := make([]api.Span, throw(api.MaxPorts+1))
		for i := range l {
			from := throw(many)
			l[i] = api.Span{From: from, To: from + throw(many-from)}
		}
		for _, p := range both(l) {
			c := Clean(p)
			if !Check(c) || !same(Clean(c), c) || c.Not != p.Not || len(c.Spans) > len(p.Spans) {
				t.Fatal(p, c)
			}
			for n := -5; n < many+5; n++ {
				if Has(p, n) != Has(c, n) {
					t.Fatal(p, c, n)
				}
			}
		}
	}
}

// P10.1, P10.2, R3: a set that is handed in stays what it was, spare room of its list too, whether it may be or not.
func TestHandedInStays(t *testing.T) {
	sets := refused()
	for _, l := range [][]api.Span{nil, spans(80, 80), spans(9, 9, 8, 8), spans(0, 65535, 1, 1), spans(5, 9, 1, 6, 3, 4), spans(60, 70, 40, 50, 20, 30, 0, 10), spans(1, 1, 2, 2, 3, 3, 4, 4)} {
		sets = append(sets, both(l)...)
	}
	for _, p := range sets {
		spare := append(slices.Clone(p.Spans), spans(7, 7, 0, 65535, 3, 2)...)
		was := slices.Clone(spare)
		x := api.Ports{Not: p.Not, Spans: spare[:len(p.Spans)]}
		Check(x)
		Clean(x)
		Has(x, 80)
		Text(x)
		if !same(x, p) || !slices.Equal(spare, was) {
			t.Fatal(p, x)
		}
	}
}

// R3: a list that Clean answers is new memory, spare room too: nothing of it is the list handed in, nor that of another answer.
func TestNewMemory(t *testing.T) {
	for n := range api.MaxPorts + 1 {
		l := spans(10, 11, 20, 22, 30, 33, 40, 44)
		p := api.Ports{Spans: l[:n]}
		was := slices.Clone(l)
		one, other := Clean(p), Clean(p)
		again := Clean(one)
		clear(one.Spans[:cap(one.Spans)])
		_ = append(one.Spans, api.Span{From: 7, To: 7})
		if !slices.Equal(l, was) || !slices.Equal(other.Spans, was[:n]) || !slices.Equal(again.Spans, was[:n]) {
			t.Error(n, l, other, again)
		}
		clear(l)
		if !slices.Equal(other.Spans, was[:n]) {
			t.Error(n, "kept", other)
		}
	}
}

// R4: what is answered hangs on the set alone, not on what was asked before.
func TestAskedAgain(t *testing.T) {
	p := api.Ports{Not: true, Spans: spans(4, 9, 80, 80, 1, 3)}
	for range 3 {
		if !same(Clean(p), api.Ports{Not: true, Spans: spans(1, 9, 80, 80)}) || Has(p, 7) || !Has(p, 10) || Text(p) != "![1-9,80]" {
			t.Error(Clean(p), Text(p))
		}
		for _, r := range refused() {
			Clean(r)
			Has(r, 7)
			Text(r)
		}
	}
}
