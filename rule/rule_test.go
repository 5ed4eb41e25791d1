package rule

import (
	"fmt"
	"math"
	"slices"
	"strings"
	"testing"

	"rampart/api"
)

// thrower throws numbers from 0 on, less than what it is asked, the same ones in each run.
func thrower() func(below int) int {
	state := uint64(2463534242)
	return func(below int) int {
		state = state*6364136223846793005 + 1442695040888963407
		return int(state >> 33 % uint64(below))
	}
}

// plain is an alert of TCP from anywhere to anywhere.
func plain(sid int, l ...api.Content) api.Rule {
	return api.Rule{Action: api.Alert, Proto: api.TCP, Contents: l, Sid: sid, Rev: 1}
}

// same tells whether two rules are one; nil and an empty list are.
func same(r, o api.Rule) bool {
	return r.Action == o.Action && r.Proto == o.Proto && r.Both == o.Both && r.Flow == o.Flow && r.Sid == o.Sid && r.Rev == o.Rev &&
		r.From.Not == o.From.Not && slices.Equal(r.From.Nets, o.From.Nets) &&
		r.To.Not == o.To.Not && slices.Equal(r.To.Nets, o.To.Nets) &&
		r.FromPort.Not == o.FromPort.Not && slices.Equal(r.FromPort.Spans, o.FromPort.Spans) &&
		r.ToPort.Not == o.ToPort.Not && slices.Equal(r.ToPort.Spans, o.ToPort.Spans) &&
		slices.Equal(r.Contents, o.Contents)
}

// copied is a rule of its own that is the same.
func copied(r api.Rule) api.Rule {
	r.From.Nets = slices.Clone(r.From.Nets)
	r.To.Nets = slices.Clone(r.To.Nets)
	r.FromPort.Spans = slices.Clone(r.FromPort.Spans)
	r.ToPort.Spans = slices.Clone(r.ToPort.Spans)
	r.Contents = slices.Clone(r.Contents)
	return r
}

// one is a set of one span.
func one(from, to int) api.Ports {
	return api.Ports{Spans: []api.Span{{From: from, To: to}}}
}

// modelContent is what the chapter says of a content, the first clause that is broken, or nothing; ahead: those ahead of it.
func modelContent(c api.Content, ahead []api.Content) string {
	n := len(c.Bytes)
	switch {
	case n == 0, n > 16:
		return "bytes"
	case c.Offset < 0, c.Offset > 65535:
		return "offset"
	case c.Depth < 0, c.Depth > 65535:
		return "depth"
	case c.Within < 0, c.Within > 65535:
		return "within"
	case c.Distance < -65535, c.Distance > 65535:
		return "distance"
	case !c.Rel && c.Distance != 0, !c.Rel && c.Within != 0:
		return "rel's, but it is not"
	case !c.Rel && c.Depth != 0 && c.Depth < n:
		return "too little depth"
	case !c.Rel:
		return ""
	case c.Not:
		return "rel, but not"
	case c.Offset != 0, c.Depth != 0:
		return "rel, but with a place"
	case c.Within != 0 && c.Within < n:
		return "too little within"
	}
	for _, a := range ahead {
		if !a.Not {
			return ""
		}
	}
	return "rel, but behind none"
}

// modelSets is what the chapter says of a rule's sets.
func modelSets(r api.Rule) bool {
	for _, s := range []api.Set{r.From, r.To} {
		if len(s.Nets) > 4 {
			return false
		}
		for _, n := range s.Nets {
			if n.Bits < 0 || n.Bits > 32 {
				return false
			}
		}
	}
	for _, p := range []api.Ports{r.FromPort, r.ToPort} {
		if len(p.Spans) > 4 {
			return false
		}
		var has [65536]bool
		for _, s := range p.Spans {
			if s.From < 0 || s.From > s.To || s.To > 65535 {
				return false
			}
			for n := s.From; n <= s.To && r.Proto == 1; n++ {
				has[n] = true
			}
		}
		if r.Proto == 1 && (p.Not || len(p.Spans) > 0 && slices.Contains(has[:], false)) {
			return false
		}
	}
	return true
}

// modelCheck is Check by the chapter's words.
func modelCheck(r api.Rule) bool {
	switch {
	case !strings.Contains(" 1 2 3 4 ", fmt.Sprintf(" %d ", r.Action)),
		!strings.Contains(" 0 1 6 17 ", fmt.Sprintf(" %d ", r.Proto)),
		!strings.Contains(" 0 1 2 ", fmt.Sprintf(" %d ", r.Flow)),
		r.Sid < 1, r.Sid > 999999999, r.Rev < 1, r.Rev > 999999999,
		len(r.Contents) > 4, !modelSets(r):
		return false
	}
	for i, c := range r.Contents {
		if modelContent(c, r.Contents[:i]) != "" {
			return false
		}
	}
	return true
}

// asModel tells by the test whether Check answers as the model does.
func asModel(t *testing.T, r api.Rule) {
	t.Helper()
	if got, want := Check(r), modelCheck(r); got != want {
		t.Fatalf("%+v: %v, want %v", r, got, want)
	}
}

// far is numbers that are far from all that may be, among them such as may be in fewer bits.
func far(n int) []int {
	return []int{n + 1<<32, n - 1<<32, n + 1<<16, n - 1<<16, n + 256, n - 256, math.MaxInt32, math.MinInt32, math.MaxInt, math.MinInt}
}

// P11.3: each number of a rule, from the least to the greatest that may be, and what is beyond.
func TestCheckNumbers(t *testing.T) {
	for _, c := range []struct {
		name string
		set  func(r *api.Rule, n int)
		may  []int // of the numbers from -3 to 300
		last int   // 0, or the greatest that may be, if it is beyond these
	}{
		{"action", func(r *api.Rule, n int) { r.Action = n }, []int{1, 2, 3, 4}, 0},
		{"proto", func(r *api.Rule, n int) { r.Proto = n }, []int{0, 1, 6, 17}, 0},
		{"flow", func(r *api.Rule, n int) { r.Flow = n }, []int{0, 1, 2}, 0},
		{"sid", func(r *api.Rule, n int) { r.Sid = n }, nil, 999999999},
		{"rev", func(r *api.Rule, n int) { r.Rev = n }, nil, 999999999},
	} {
		is := func(n int, want bool) {
			t.Helper()
			r := plain(7)
			c.set(&r, n)
			if got := Check(r); got != want {
				t.Error(c.name, n, got)
			}
			asModel(t, r)
		}
		for n := -3; n <= 300; n++ {
			is(n, slices.Contains(c.may, n) || c.last > 0 && n > 0)
		}
		for _, n := range far(2) {
			is(n, c.last > 0 && 0 < n && n <= c.last)
		}
		if c.last > 0 {
			is(c.last-1, true)
			is(c.last, true)
			is(c.last+1, false)
			is(c.last+2, false)
		}
	}
}

// P11.3: each of the four sets must be right, whatever the others are; they need not be clean.
func TestCheckSets(t *testing.T) {
	nets := []struct {
		l  []api.Net
		ok bool
	}{
		{nil, true}, {[]api.Net{}, true}, {make([]api.Net, 4), true}, {make([]api.Net, 5), false},
		{[]api.Net{{Addr: math.MaxUint32, Bits: 0}}, true}, {[]api.Net{{Bits: 32}, {Bits: 32}}, true},
		{[]api.Net{{Bits: 33}}, false}, {[]api.Net{{Bits: -1}}, false}, {[]api.Net{{}, {Bits: 33}}, false}, {[]api.Net{{}, {}, {}, {Bits: -1}}, false},
	}
	spans := []struct {
		l  []api.Span
		ok bool
	}{
		{nil, true}, {[]api.Span{}, true}, {make([]api.Span, 4), true}, {make([]api.Span, 5), false},
		{[]api.Span{{From: 0, To: 65535}}, true}, {[]api.Span{{From: 9, To: 9}, {From: 1, To: 20}}, true},
		{[]api.Span{{From: 2, To: 1}}, false}, {[]api.Span{{From: -1, To: 1}}, false}, {[]api.Span{{From: 1, To: 65536}}, false}, {[]api.Span{{}, {}, {}, {From: 5, To: 4}}, false},
	}
	for _, not := range []bool{false, true} {
		for i, x := range nets {
			from, to := plain(1), plain(1)
			from.From = api.Set{Not: not, Nets: x.l}
			to.To = from.From
			if Check(from) != x.ok || Check(to) != x.ok {
				t.Error("nets", i, not)
			}
			asModel(t, from)
			asModel(t, to)
		}
		for i, x := range spans {
			from, to := plain(1), plain(1)
			from.FromPort = api.Ports{Not: not, Spans: x.l}
			to.ToPort = from.FromPort
			if Check(from) != x.ok || Check(to) != x.ok {
				t.Error("spans", i, not)
			}
			asModel(t, from)
			asModel(t, to)
		}
	}
}

// P11.3: a rule of ICMP has all ports, however they are said; others have any.
func TestCheckICMP(t *testing.T) {
	all := []api.Ports{
		{}, {Spans: []api.Span{}}, one(0, 65535),
		{Spans: []api.Span{{From: 100, To: 65535}, {From: 0, To: 99}}},
		{Spans: []api.Span{{From: 5, To: 9}, {From: 30, To: 65535}, {From: 0, To: 40}, {From: 7, To: 7}}},
	}
	some := []api.Ports{
		{Not: true}, {Not: true, Spans: one(0, 65535).Spans}, {Not: true, Spans: one(7, 7).Spans},
		one(0, 0), one(0, 65534), one(1, 65535), one(80, 80),
		{Spans: []api.Span{{From: 101, To: 65535}, {From: 0, To: 99}}},
	}
	both := append(slices.Clone(all), some...)
	for i, from := range both {
		for k, to := range both {
			for _, proto := range []int{0, api.ICMP, api.TCP, api.UDP} {
				r := plain(1)
				r.Proto, r.FromPort, r.ToPort = proto, from, to
				want := proto != api.ICMP || i < len(all) && k < len(all)
				if Check(r) != want {
					t.Error(i, k, proto, !want)
				}
				asModel(t, r)
			}
		}
	}
	r := plain(1)
	r.Proto, r.FromPort = api.ICMP, one(2, 1)
	if Check(r) { // Clean makes of this one a set of all
		t.Error("a set that may not be")
	}
}

// P11.3: at most MaxContents contents, and each from 1 to MaxPattern bytes.
func TestCheckHowMany(t *testing.T) {
	if api.MaxContents != 4 || api.MaxPattern != 16 {
		t.Fatal(api.MaxContents, api.MaxPattern)
	}
	for n := range 12 {
		l := slices.Repeat([]api.Content{{Bytes: "a"}}, n)
		if got := Check(plain(1, l...)); got != (n <= 4) {
			t.Error(n, "contents", got)
		}
	}
	for _, unit := range []string{"a", "\x00", "\xff", " "} {
		for n := range 40 {
			c := api.Content{Bytes: strings.Repeat(unit, n)}
			if got := Check(plain(1, c)); got != (1 <= n && n <= 16) {
				t.Error(n, "bytes", got)
			}
		}
	}
}

// P11.3: each number of a content alone, of one that is Rel and of one that is not.
func TestCheckContentNumbers(t *testing.T) {
	ahead := api.Content{Bytes: "x"}
	for _, c := range []struct {
		name        string
		set         func(c *api.Content, n int)
		least, most int
		rel         bool // whether it may be other than 0 in one that is Rel
		room        bool // whether it must have room for the bytes
	}{
		{"offset", func(c *api.Content, n int) { c.Offset = n }, 0, 65535, false, false},
		{"depth", func(c *api.Content, n int) { c.Depth = n }, 0, 65535, false, true},
		{"within", func(c *api.Content, n int) { c.Within = n }, 0, 65535, true, true},
		{"distance", func(c *api.Content, n int) { c.Distance = n }, -65535, 65535, true, false},
	} {
		for _, rel := range []bool{false, true} {
			for _, bytes := range []string{"a", "ab", "0123456789abcdef"} {
				tried := append(far(5), 0, 65534, 65535, 65536, 65537, -65534, -65535, -65536, -65537)
				for n := -20; n <= 40; n++ {
					tried = append(tried, n)
				}
				for _, n := range tried {
					x := api.Content{Bytes: bytes, Rel: rel}
					c.set(&x, n)
					want := n == 0 || rel == c.rel && c.least <= n && n <= c.most && (!c.room || n >= len(bytes))
					if got := Check(plain(1, ahead, x)); got != want {
						t.Error(c.name, "of", bytes, rel, n, got)
					}
				}
			}
		}
	}
}

// P11.3: all contents of a few numbers each, ahead of each other, against the model.
func TestCheckContents(t *testing.T) {
	var pool []api.Content
	for _, bytes := range []string{"", "a", "bcd", "0123456789abcdef", "0123456789abcdefg"} {
		for flags := range 8 {
			for numbers := range 3 * 3 * 3 * 3 {
				pool = append(pool, api.Content{
					Bytes: bytes, Nocase: flags&1 > 0, Not: flags&2 > 0, Rel: flags&4 > 0,
					Offset:   []int{0, 2, 65536}[numbers%3],
					Depth:    []int{0, 2, 16}[numbers/3%3],
					Distance: []int{0, -65535, -65536}[numbers/9%3],
					Within:   []int{0, 2, 16}[numbers/27],
				})
			}
		}
	}
	may, mayNot := 0, 0
	for _, c := range pool {
		for _, l := range [][]api.Content{{c}, {{Bytes: "x"}, c}, {{Bytes: "x", Not: true}, c}, {c, {Bytes: "x"}}, {c, {Bytes: "x", Rel: true}}, {{Bytes: "x"}, c, {Bytes: "y", Rel: true}}} {
			r := plain(1, l...)
			asModel(t, r)
			if Check(r) {
				may++
			} else {
				mayNot++
			}
		}
	}
	if may < 300 || mayNot < 300 {
		t.Error(may, mayNot)
	}
}

// P11.3: what is Rel needs a content ahead that is not Not: any one of them, not the one right ahead alone.
func TestCheckRel(t *testing.T) {
	kinds := []api.Content{{Bytes: "a"}, {Bytes: "b", Not: true}, {Bytes: "c", Rel: true}}
	level := [][]int{nil}
	for range api.MaxContents + 1 {
		var longer [][]int
		for _, l := range level {
			var contents []api.Content
			sought, want := false, true
			for _, k := range l {
				contents = append(contents, kinds[k])
				want = want && (k != 2 || sought)
				sought = sought || k != 1
			}
			if got := Check(plain(1, contents...)); got != want {
				t.Error(l, got)
			}
			for k := range kinds {
				longer = append(longer, append(slices.Clone(l), k))
			}
		}
		level = longer
	}
}

// broken is rules that may not be, each for one thing alone.
func broken() []api.Rule {
	var l []api.Rule
	for _, change := range []func(r *api.Rule){
		func(r *api.Rule) { r.Action = 0 },
		func(r *api.Rule) { r.Proto = 2 },
		func(r *api.Rule) { r.From.Nets = make([]api.Net, 5) },
		func(r *api.Rule) { r.To.Nets = []api.Net{{Bits: 33}} },
		func(r *api.Rule) { r.FromPort = one(2, 1) },
		func(r *api.Rule) { r.ToPort.Spans = make([]api.Span, 5) },
		func(r *api.Rule) { r.Proto, r.ToPort = api.ICMP, one(80, 80) },
		func(r *api.Rule) { r.Flow = 3 },
		func(r *api.Rule) { r.Sid = 0 },
		func(r *api.Rule) { r.Sid = -7 },
		func(r *api.Rule) { r.Sid = 1000000000 },
		func(r *api.Rule) { r.Rev = 0 },
		func(r *api.Rule) { r.Contents = slices.Repeat([]api.Content{{Bytes: "a"}}, 5) },
		func(r *api.Rule) { r.Contents = []api.Content{{}} },
		func(r *api.Rule) { r.Contents = []api.Content{{Bytes: "a"}, {Bytes: "a", Within: 1}} },
		func(r *api.Rule) { r.Contents = []api.Content{{Bytes: "a", Rel: true}} },
		func(r *api.Rule) { *r = api.Rule{} },
	} {
		r := plain(77)
		change(&r)
		l = append(l, r)
	}
	return l
}

// P11.3: a rule that is broken in one thing may not be, its like may be.
func TestCheckBroken(t *testing.T) {
	if !Check(plain(77)) {
		t.Error("plain")
	}
	for i, r := range broken() {
		if Check(r) {
			t.Error(i)
		}
		asModel(t, r)
	}
}

// P11.3: rules thrown together, each thing of them right most of the time, against the model.
func TestCheckThrown(t *testing.T) {
	throw := thrower()
	of := func(l ...int) int { return l[throw(len(l))] }
	nets := func() api.Set {
		return api.Set{Not: throw(2) == 0, Nets: slices.Repeat([]api.Net{{Addr: 5, Bits: of(0, 8, 32, 32, 33+throw(20)/19)}}, of(0, 0, 1, 4, 4+throw(10)/9))}
	}
	spans := func() api.Ports {
		from := throw(65536)
		return api.Ports{Not: throw(4) == 0, Spans: slices.Repeat([]api.Span{{From: from, To: max(from-throw(50)/49, 65535-throw(2))}}, of(0, 0, 1, 4, 4+throw(10)/9))}
	}
	may := 0
	for range 20000 {
		r := api.Rule{Action: of(1, 2, 3, 4, 4+throw(4)/3), Proto: of(0, 1, 6, 17, 6+throw(9)/8), Flow: of(0, 1, 2, 2+throw(4)/3), Sid: of(1, 999999999, 999999999+throw(4)/3, throw(20)), Rev: of(1, 999999999, throw(20)), Both: throw(2) == 0}
		r.From, r.To = nets(), nets()
		if throw(3) > 0 {
			r.FromPort, r.ToPort = spans(), spans()
		}
		for range throw(5) {
			c := api.Content{Bytes: strings.Repeat("b", of(1, 3, 16, throw(18))), Nocase: throw(2) == 0, Not: throw(4) == 0, Rel: throw(3) == 0}
			if c.Rel {
				c.Distance, c.Within = of(0, 0, -65535, 65535, 65535+throw(9)/8), of(0, 0, 16, throw(20), 65535)
			} else {
				c.Offset, c.Depth = of(0, 0, 65535, 65535+throw(9)/8), of(0, 0, 16, throw(20), 65535)
			}
			r.Contents = append(r.Contents, c)
		}
		asModel(t, r)
		if Check(r) {
			may++
		}
	}
	if may < 2000 || may > 18000 {
		t.Error(may, "may be")
	}
}

// several is so many rules that may be together.
func several(n int) []api.Rule {
	var l []api.Rule
	for i := range n {
		l = append(l, plain(i+1))
	}
	return l
}

// P11.3: of All: how many rules there may be, and that this error is the first one.
func TestAllHowMany(t *testing.T) {
	if api.MaxRules != 40 {
		t.Fatal(api.MaxRules)
	}
	for n := range 100 {
		want := api.OK
		if n > 40 {
			want = api.ErrBig
		}
		if e := All(several(n)); e != want {
			t.Error(n, e)
		}
	}
	for _, l := range [][]api.Rule{make([]api.Rule, 41), slices.Repeat([]api.Rule{plain(1)}, 41), make([]api.Rule, 1000), append(several(40), plain(1)), append(several(40), api.Rule{})} {
		if e := All(l); e != api.ErrBig {
			t.Error(len(l), e)
		}
	}
	if e := All(nil); e != api.OK {
		t.Error(e)
	}
	if e := All([]api.Rule{}); e != api.OK {
		t.Error(e)
	}
}

// P11.3: of All: one rule that may not be, at any place, among others or alone, with twins ahead of it or behind.
func TestAllBroken(t *testing.T) {
	for i, r := range broken() {
		for n := range 5 {
			for at := range n + 1 {
				if e := All(slices.Insert(several(n), at, r)); e != api.ErrRule {
					t.Error(i, n, at, e)
				}
			}
		}
		for _, l := range [][]api.Rule{{plain(1), plain(1), r}, {r, plain(1), plain(1)}, {plain(1), r, plain(1)}, {r, r}, slices.Insert(several(39), 39, r), slices.Insert(several(39), 0, r)} {
			if e := All(l); e != api.ErrRule {
				t.Error(i, len(l), e)
			}
		}
	}
}

// P11.3: of All: two rules of one Sid, at any two places, whatever else of them differs.
func TestAllTwice(t *testing.T) {
	for _, n := range []int{2, 3, 7, 40} {
		for later := range n {
			for earlier := range later {
				l := several(n)
				l[later].Sid = l[earlier].Sid
				l[later].Action, l[later].Proto, l[later].Rev, l[later].Flow = api.Block, api.UDP, 9, 2
				if e := All(l); e != api.ErrTwice {
					t.Error(n, later, earlier, e)
				}
			}
		}
	}
	for _, sid := range []int{1, 2, 65537, 999999999} {
		if e := All([]api.Rule{plain(sid), plain(sid)}); e != api.ErrTwice {
			t.Error(sid, e)
		}
	}
	// What is like in all but the Sid may be.
	if e := All([]api.Rule{plain(1), plain(2), plain(65537), plain(65538), plain(999999999)}); e != api.OK {
		t.Error(e)
	}
}

// P11.3, R3: rules that are handed in stay what they were, spare room of their lists too.
func TestHandedInStays(t *testing.T) {
	r := api.Rule{
		Action: 1, Proto: api.ICMP, Sid: 1, Rev: 1,
		From:     api.Set{Nets: []api.Net{{Addr: 0x0a010203, Bits: 8}, {Addr: 7, Bits: 0}, {Bits: 33}}[:2]},
		To:       api.Set{Not: true, Nets: []api.Net{{Addr: 1, Bits: 1}, {Addr: 1, Bits: 1}, {Addr: 9, Bits: 9}}[:2]},
		FromPort: api.Ports{Spans: []api.Span{{From: 9, To: 65535}, {From: 0, To: 9}, {From: 4, To: 3}}[:2]},
		ToPort:   api.Ports{Spans: []api.Span{{From: 0, To: 65535}, {From: 0, To: 9}, {From: 4, To: 3}}[:2]},
		Contents: []api.Content{{Bytes: "a"}, {Bytes: "b", Rel: true}, {Offset: 5}}[:2],
	}
	whole := func(r api.Rule) api.Rule {
		r.From.Nets, r.To.Nets = r.From.Nets[:3], r.To.Nets[:3]
		r.FromPort.Spans, r.ToPort.Spans = r.FromPort.Spans[:3], r.ToPort.Spans[:3]
		r.Contents = r.Contents[:3]
		return r
	}
	was := copied(whole(r))
	l := []api.Rule{plain(3), r, plain(2), plain(9)}
	if !Check(r) || All(l[:3]) != api.OK {
		t.Error("refused")
	}
	if !same(whole(r), was) || !same(whole(l[1]), was) || !same(l[0], plain(3)) || !same(l[2], plain(2)) || !same(l[3], plain(9)) {
		t.Error(l)
	}
	for _, b := range broken() {
		was := copied(b)
		l := []api.Rule{b, b}
		Check(b)
		All(l)
		if !same(b, was) || !same(l[0], was) || !same(l[1], was) {
			t.Error(b)
		}
	}
}

// R4: what is answered hangs on the rules alone, not on what was asked before.
func TestAskedAgain(t *testing.T) {
	for range 3 {
		if !Check(plain(1)) || All(several(40)) != api.OK || All([]api.Rule{plain(1), plain(1)}) != api.ErrTwice {
			t.Error("another answer")
		}
		if l, line, e := Parse("alert tcp any any -> any any (sid:1;)"); len(l) != 1 || line != 0 || e != api.OK {
			t.Error(l, line, e)
		}
		if _, line, e := Parse("var a = any\nalert\n;"); line != 3 || e != api.ErrText {
			t.Error(line, e)
		}
		if _, line, e := Parse("alert tcp $a any -> any any (sid:1;)"); line != 1 || e != api.ErrText {
			t.Error("a var of another text", line, e)
		}
		All(broken())
	}
}
