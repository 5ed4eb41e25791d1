package print

import (
	"slices"
	"strings"
	"testing"

	"rampart/api"
	"rampart/cidr"
	"rampart/ports"
	"rampart/rule"
)

// same tells whether two rules are one; nil and an empty list are.
func same(r, o api.Rule) bool {
	return r.Action == o.Action && r.Proto == o.Proto && r.Both == o.Both && r.Flow == o.Flow && r.Sid == o.Sid && r.Rev == o.Rev &&
		r.From.Not == o.From.Not && slices.Equal(r.From.Nets, o.From.Nets) &&
		r.To.Not == o.To.Not && slices.Equal(r.To.Nets, o.To.Nets) &&
		r.FromPort.Not == o.FromPort.Not && slices.Equal(r.FromPort.Spans, o.FromPort.Spans) &&
		r.ToPort.Not == o.ToPort.Not && slices.Equal(r.ToPort.Spans, o.ToPort.Spans) &&
		slices.Equal(r.Contents, o.Contents)
}

// clean is a rule with its sets clean.
func clean(r api.Rule) api.Rule {
	r.From, r.To = cidr.Clean(r.From), cidr.Clean(r.To)
	r.FromPort, r.ToPort = ports.Clean(r.FromPort), ports.Clean(r.ToPort)
	return r
}

// reads tells by the test whether a text is read as these rules with their sets clean, and is the same text when these are told.
func reads(t *testing.T, s string, rules []api.Rule) {
	t.Helper()
	l, line, e := rule.Parse(s)
	if e != api.OK || line != 0 || len(l) != len(rules) {
		t.Fatalf("%d rules: line %d, error %d:\n%s", len(l), line, e, s)
	}
	for i, r := range rules {
		if !same(l[i], clean(r)) {
			t.Fatalf("%v, want %v:\n%s", l[i], clean(r), s)
		}
	}
	again := All(l)
	if len(l) == 1 && !strings.HasSuffix(s, "\n") {
		again = Rule(l[0])
	}
	if again != s {
		t.Fatalf("%s\nand then\n%s", s, again)
	}
}

// asTold tells by the test whether rules are told as the model tells them, and come back from their texts.
func asTold(t *testing.T, rules ...api.Rule) {
	t.Helper()
	want := ""
	for _, r := range rules {
		one := modelRule(r)
		if got := Rule(r); got != one {
			t.Fatalf("%v:\n%s, want\n%s", r, got, one)
		}
		reads(t, one, []api.Rule{r})
		want += one + "\n"
	}
	got := All(rules)
	if got != want {
		t.Fatalf("%v:\n%s, want\n%s", rules, got, want)
	}
	if len(got) <= api.MaxText {
		reads(t, got, rules)
	} else if l, line, e := rule.Parse(got); l != nil || line != 0 || e != api.ErrBig {
		t.Fatal(l, line, e)
	}
}

// P12.2: every set of options that one content, and one behind it, may have.
func TestBackOptions(t *testing.T) {
	for bits := range 1 << 4 {
		has := func(n int) bool { return bits>>n&1 == 1 }
		for _, offset := range []int{0, 1, 65535} {
			for _, depth := range []int{0, 2, 65535} {
				c := api.Content{Bytes: "a\x00", Not: has(0), Nocase: has(1), Offset: offset, Depth: depth}
				r := having(c)
				r.Flow, r.Both = bits%3, has(2)
				asTold(t, r)
			}
		}
		for _, distance := range []int{-65535, -1, 0, 1, 65535} {
			for _, within := range []int{0, 1, 2, 65535} {
				c := api.Content{Bytes: "|", Rel: true, Nocase: has(1), Distance: distance, Within: within}
				r := having(api.Content{Bytes: "\"", Nocase: has(2)}, c, api.Content{Bytes: "\\"})
				r.Flow, r.Both = bits%3, has(3)
				asTold(t, r)
			}
		}
	}
}

// P12.2: each byte in a content.
func TestBackBytes(t *testing.T) {
	for a := range 256 {
		for b := range 256 {
			s := oneByte(a) + oneByte(b)
			r := having(api.Content{Bytes: s})
			reads(t, Rule(r), []api.Rule{r})
		}
	}
	for n := 1; n <= api.MaxPattern; n++ {
		for _, c := range []int{0, ' ', '"', '\\', '|', 'a', 127, 255} {
			asTold(t, having(api.Content{Bytes: strings.Repeat(oneByte(c), n)}))
		}
	}
}

// P12.2: sets that are clean, and such that are not yet, at each place.
func TestBackSets(t *testing.T) {
	nets := []api.Set{set(false), set(true), set(false, 0, 0), set(true, 0xffffffff, 0), set(false, 0x0a010203, 8), set(true, 0x0a010203, 32, 0x0a000000, 8, 0x0a010203, 32), set(false, 1, 32, 2, 32, 3, 31, 0x80000000, 1)}
	lists := []api.Ports{spans(false), spans(true), spans(false, 0, 65535), spans(true, 0, 65535), spans(false, 5, 9, 1, 4), spans(true, 80, 80), spans(false, 9, 9, 7, 7, 3, 3, 0, 1), spans(true, 4, 65535, 0, 4)}
	for i, from := range nets {
		for j, to := range nets {
			for k, p := range lists {
				r := plain()
				r.From, r.To, r.FromPort, r.ToPort = from, to, p, lists[(i+j+k)%len(lists)]
				r.Proto = []int{0, api.TCP, api.UDP}[(i+j)%3]
				asTold(t, r)
			}
		}
	}
}

// P12.2: no rule, one, as many as there may be; a text that is longer than one may be is told all the same.
func TestBackAll(t *testing.T) {
	reads(t, "", nil)
	for n := range api.MaxRules + 1 {
		asTold(t, several(n)...)
	}
	var l []api.Rule
	for n := range api.MaxRules {
		l = append(l, greatest(n+1))
		asTold(t, l...)
	}
	if len(All(l)) <= api.MaxText {
		t.Error("the greatest rules were meant to be longer than a text may be")
	}
}

// thrown makes rules that may be.
type thrown struct{ d func(below int) int }

// number is a number to a greatest one; its ends come often.
func (m thrown) number(least, most int) int {
	switch m.d(4) {
	case 0:
		return least
	case 1:
		return most
	}
	return least + m.d(most-least+1)
}

func (m thrown) set() api.Set {
	s := api.Set{Not: m.d(2) == 0}
	for range m.d(api.MaxAddrs + 1) {
		s.Nets = append(s.Nets, api.Net{Addr: uint32(m.d(3))<<24 | uint32(m.d(1<<24)), Bits: m.number(0, 32)})
	}
	return s
}

func (m thrown) ports() api.Ports {
	p := api.Ports{Not: m.d(2) == 0}
	for range m.d(api.MaxPorts + 1) {
		from := m.number(0, 65535)
		p.Spans = append(p.Spans, api.Span{From: from, To: m.number(from, 65535)})
	}
	return p
}

func (m thrown) bytes() string {
	b := make([]byte, m.number(1, api.MaxPattern))
	for i := range b {
		b[i] = []byte{byte(m.d(256)), byte(m.d(256)), 'a', ' ', '"', '|', '\\', '~', 31, 127}[m.d(10)]
	}
	return string(b)
}

// content is a content that may stand behind another one, if there is one that is sought.
func (m thrown) content(behind bool) api.Content {
	c := api.Content{Bytes: m.bytes(), Nocase: m.d(2) == 0}
	room := func() int {
		return m.d(2) * m.number(len(c.Bytes), api.MaxPlace)
	}
	if behind && m.d(2) == 0 {
		c.Rel, c.Distance, c.Within = true, m.number(-api.MaxPlace, api.MaxPlace)*m.d(2), room()
		return c
	}
	c.Not, c.Offset, c.Depth = m.d(3) == 0, m.number(0, api.MaxPlace), room()
	return c
}

func (m thrown) rule(sid int) api.Rule {
	r := api.Rule{
		Action: 1 + m.d(4), Proto: []int{0, api.ICMP, api.TCP, api.UDP}[m.d(4)], From: m.set(), To: m.set(), FromPort: m.ports(), ToPort: m.ports(),
		Both: m.d(2) == 0, Flow: m.d(3), Sid: sid, Rev: m.number(1, api.MaxSid),
	}
	if r.Proto == api.ICMP {
		r.FromPort, r.ToPort = api.Ports{}, spans(false, 0, 65535)
	}
	behind := false
	for range m.d(api.MaxContents + 1) {
		c := m.content(behind)
		behind = behind || !c.Not
		r.Contents = append(r.Contents, c)
	}
	return r
}

// P12.1, P12.2: thrown rules are told as the chapter says, and come back.
func TestThrownRules(t *testing.T) {
	m := thrown{thrower()}
	for range 3000 {
		var l []api.Rule
		first := m.number(1, api.MaxSid-5)
		for n := range m.d(5) {
			l = append(l, m.rule(first+n))
		}
		asTold(t, l...)
	}
}

// R1: any rules are answered: those that may be as the model tells them, others not at all.
func TestAnything(t *testing.T) {
	m := thrown{thrower()}
	odd := func(n int) int {
		if m.d(12) == 0 {
			return []int{-1 << 63, -65536, -1, 0, 1, 5, 33, 65536, 1000000000, 1<<63 - 1}[m.d(10)]
		}
		return n
	}
	told := 0
	for range 20000 {
		r := m.rule(odd(9))
		r.Action, r.Proto, r.Flow, r.Rev = odd(r.Action), odd(r.Proto), odd(r.Flow), odd(r.Rev)
		for i := range r.Contents {
			c := &r.Contents[i]
			c.Offset, c.Depth, c.Distance, c.Within = odd(c.Offset), odd(c.Depth), odd(c.Distance), odd(c.Within)
			c.Rel = c.Rel != (m.d(20) == 0)
		}
		for i := range r.From.Nets {
			r.From.Nets[i].Bits = odd(r.From.Nets[i].Bits)
		}
		for i := range r.ToPort.Spans {
			r.ToPort.Spans[i].From = odd(r.ToPort.Spans[i].From)
		}
		want := ""
		if rule.Check(r) {
			want = modelRule(r)
			told++
		}
		tells(t, r, want)
	}
	if told < 2000 || told > 18000 {
		t.Error(told, "that may be")
	}
}

// R3: what is handed in stays as it is, spare room too.
func TestHandedInStays(t *testing.T) {
	build := func() []api.Rule {
		r := greatest(5)
		r.From = set(false, 0x0a010203, 32, 0x0aff0000, 8, 1, 30, 1, 30)
		r.FromPort = spans(false, 9, 9, 1, 3, 4, 5, 2, 8)
		return []api.Rule{r, plain(), having(api.Content{Bytes: "x"})}
	}
	l := build()
	handed := l[:2]
	handed[0].From.Nets = handed[0].From.Nets[:2]
	handed[0].ToPort.Spans = handed[0].ToPort.Spans[:1]
	handed[0].Contents = handed[0].Contents[:3]
	All(handed)
	Rule(handed[0])
	handed[0].From.Nets = handed[0].From.Nets[:4]
	handed[0].ToPort.Spans = handed[0].ToPort.Spans[:4]
	handed[0].Contents = handed[0].Contents[:4]
	for i, r := range build() {
		if !same(l[i], r) {
			t.Errorf("%v, want %v", l[i], r)
		}
	}
}

// R4: an answer hangs on what was handed in alone.
func TestAskedAgain(t *testing.T) {
	one, all, bytes := Rule(greatest(5)), All(several(9)), Bytes("a\x00|")
	for _, r := range broken() {
		Rule(r)
		All([]api.Rule{r})
	}
	Bytes(strings.Repeat("\xff", 999))
	if Rule(greatest(5)) != one || All(several(9)) != all || Bytes("a\x00|") != bytes {
		t.Error("told anew, it is another text")
	}
}
