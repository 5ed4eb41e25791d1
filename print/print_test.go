package print

import (
	"fmt"
	"regexp"
	"slices"
	"strings"
	"testing"

	"rampart/api"
	"rampart/cidr"
	"rampart/lex"
	"rampart/ports"
)

// thrower throws numbers from 0 on, less than what it is asked, the same ones in each run.
func thrower() func(below int) int {
	state := uint64(88172645463325252)
	return func(below int) int {
		state = state*6364136223846793005 + 1442695040888963407
		return int(state >> 33 % uint64(below))
	}
}

// oneByte is a text of one byte.
func oneByte(n int) string {
	return string([]byte{byte(n)})
}

// modelOdd is bytes that cannot stand as they are, as many as stand one behind the other.
var modelOdd = regexp.MustCompile(`[^ -~]+`)

// modelSigns puts a sign ahead of the three that want one.
var modelSigns = strings.NewReplacer(`"`, `\"`, `|`, `\|`, `\`, `\\`)

// modelBytes is what the chapter says of Bytes, worked out another way: the signs first, then the pairs of digits.
func modelBytes(s string) string {
	return `"` + modelOdd.ReplaceAllStringFunc(modelSigns.Replace(s), func(l string) string {
		return fmt.Sprintf("|% X|", l)
	}) + `"`
}

// asBytes tells by the test whether bytes are told as the model tells them, and are these bytes when they are read.
func asBytes(t *testing.T, s string) {
	t.Helper()
	got := Bytes(s)
	if want := modelBytes(s); got != want {
		t.Fatalf("%q: %s, want %s", s, got, want)
	}
	if len(got) > api.MaxText {
		return
	}
	want := []lex.Token{{Kind: lex.Bytes, S: s, Line: 1}}
	if l, line, e := lex.All(got); !slices.Equal(l, want) {
		t.Fatalf("%q: %s is read as %v, line %d, error %d", s, got, l, line, e)
	}
}

// P12.1: bytes of each kind, by themselves and beside each other, as the chapter says them.
func TestBytes(t *testing.T) {
	for _, c := range []struct{ s, want string }{
		{"", `""`},
		{"a", `"a"`},
		{"Az09", `"Az09"`},
		{"a\n", `"a|0A|"`},
		{"\na", `"|0A|a"`},
		{"a\nb", `"a|0A|b"`},
		{"\n\r", `"|0A 0D|"`},
		{"\x01\x02\x03", `"|01 02 03|"`},
		{"\x01a\x02", `"|01|a|02|"`},
		{"\x01\x02a\x03\x04", `"|01 02|a|03 04|"`},
		{"\x01 \x02", `"|01| |02|"`},
		{"\x1f", `"|1F|"`},
		{" ", `" "`},
		{"~", `"~"`},
		{"\x7f", `"|7F|"`},
		{"\x00", `"|00|"`},
		{"\xff", `"|FF|"`},
		{"\x1e\x1f !", `"|1E 1F| !"`},
		{"}~\x7f\x80", `"}~|7F 80|"`},
		{"\x00\xff\xab\xcd\xef\x9a", `"|00 FF AB CD EF 9A|"`},
		{`"`, `"\""`},
		{`|`, `"\|"`},
		{`\`, `"\\"`},
		{`"|\`, `"\"\|\\"`},
		{`\\`, `"\\\\"`},
		{`\"`, `"\\\""`},
		{`|0A|`, `"\|0A\|"`},
		{"\n|\n", `"|0A|\||0A|"`},
		{"\x00\"\x00", `"|00|\"|00|"`},
		{"\\\n", `"\\|0A|"`},
		{"\n\\", `"|0A|\\"`},
		{"#$;:()!{}[]<>/'`", "\"#$;:()!{}[]<>/'`\""},
		{"\u00e9", `"|C3 A9|"`},
		{"\xe9", `"|E9|"`},
		{"a\u20acb", `"a|E2 82 AC|b"`},
		{"\ufffd\xff", `"|EF BF BD FF|"`},
		{"\t \t", `"|09| |09|"`},
	} {
		if got := Bytes(c.s); got != c.want {
			t.Errorf("%q: %s, want %s", c.s, got, c.want)
		}
	}
}

// P12.1: each byte by itself, ahead of and behind each other one.
func TestBytesAll(t *testing.T) {
	for a := range 256 {
		asBytes(t, oneByte(a))
		for b := range 256 {
			asBytes(t, oneByte(a)+oneByte(b))
		}
	}
}

// P12.1: all texts of up to five bytes of each kind.
func TestBytesOfFew(t *testing.T) {
	level := []string{""}
	for range 5 {
		var longer []string
		for _, s := range level {
			for _, c := range []int{0, 31, ' ', '"', 'A', '\\', '|', '~', 127, 255} {
				longer = append(longer, s+oneByte(c))
			}
		}
		for _, s := range longer {
			asBytes(t, s)
		}
		level = longer
	}
}

// P12.1: as many of a kind as there may be in a content, and many more; parted by a plain one at each place.
func TestBytesMany(t *testing.T) {
	for _, c := range []int{0, 'a', '"', '|', '\\', 255} {
		for _, n := range []int{15, 16, 17, 500, 2000, 100000} {
			asBytes(t, strings.Repeat(oneByte(c), n))
		}
		for at := range 16 {
			s := []byte(strings.Repeat(oneByte(c), 16))
			s[at] = 'z'
			asBytes(t, string(s))
			s[at] = 0x80
			asBytes(t, string(s))
		}
	}
	if got, want := Bytes(strings.Repeat("\xfe", 16)), `"|`+strings.Repeat("FE ", 15)+`FE|"`; got != want {
		t.Error(got)
	}
}

// P12.1, R1: any bytes.
func TestBytesThrown(t *testing.T) {
	d := thrower()
	for range 20000 {
		odd := d(4)
		b := make([]byte, d(40))
		for i := range b {
			if b[i] = byte(' ' + d(95)); d(4) < odd {
				b[i] = byte(d(256))
			}
		}
		asBytes(t, string(b))
	}
}

// plain is a rule that says as little as a rule may.
func plain() api.Rule {
	return api.Rule{Action: api.Alert, Proto: api.TCP, Sid: 1, Rev: 1}
}

// with is that rule, but for what is changed.
func with(change func(r *api.Rule)) api.Rule {
	r := plain()
	change(&r)
	return r
}

// having is a rule that has these contents.
func having(l ...api.Content) api.Rule {
	return with(func(r *api.Rule) { r.Contents = l })
}

// set is a set of addresses: an address and its bits for each.
func set(not bool, numbers ...uint32) api.Set {
	s := api.Set{Not: not}
	for l := range slices.Chunk(numbers, 2) {
		s.Nets = append(s.Nets, api.Net{Addr: l[0], Bits: int(l[1])})
	}
	return s
}

// spans is a set of ports: from and to for each.
func spans(not bool, ends ...int) api.Ports {
	p := api.Ports{Not: not}
	for l := range slices.Chunk(ends, 2) {
		p.Spans = append(p.Spans, api.Span{From: l[0], To: l[1]})
	}
	return p
}

// tells tells by the test whether a rule's text is this one.
func tells(t *testing.T, r api.Rule, want string) {
	t.Helper()
	if got := Rule(r); got != want {
		t.Errorf("%v:\n%s, want\n%s", r, got, want)
	}
}

// P12.1: each action, each protocol, both arrows.
func TestHeads(t *testing.T) {
	for at, action := range []string{"alert", "drop", "reject", "block"} {
		for proto, name := range map[int]string{0: "ip", 1: "icmp", 6: "tcp", 17: "udp"} {
			for _, both := range []bool{false, true} {
				arrow := map[bool]string{false: "->", true: "<>"}[both]
				tells(t, api.Rule{Action: at + 1, Proto: proto, Both: both, Sid: 7, Rev: 3}, action+" "+name+" any any "+arrow+" any any (sid:7; rev:3;)")
			}
		}
	}
}

// P12.1: each form of sets at each of the four places, clean or not yet.
func TestSets(t *testing.T) {
	for _, c := range []struct {
		s    api.Set
		want string
	}{
		{set(false), "any"},
		{set(true), "!any"},
		{set(false, 0, 0), "0.0.0.0/0"},
		{set(true, 0, 0), "!0.0.0.0/0"},
		{set(false, 0x0a010203, 8), "10.0.0.0/8"},
		{set(true, 0x0a010203, 32), "!10.1.2.3/32"},
		{set(false, 0xffffffff, 32), "255.255.255.255/32"},
		{set(false, 0xffffffff, 1), "128.0.0.0/1"},
		{set(false, 2, 32, 1, 32), "[0.0.0.2/32,0.0.0.1/32]"},
		{set(true, 4, 32, 3, 32, 2, 32, 1, 32), "![0.0.0.4/32,0.0.0.3/32,0.0.0.2/32,0.0.0.1/32]"},
		{set(false, 0x0a010203, 32, 0x0aff0000, 8), "10.0.0.0/8"},
		{set(true, 1, 32, 1, 32, 5, 31), "![0.0.0.1/32,0.0.0.4/31]"},
	} {
		tells(t, with(func(r *api.Rule) { r.From = c.s }), "alert tcp "+c.want+" any -> any any (sid:1; rev:1;)")
		tells(t, with(func(r *api.Rule) { r.To = c.s }), "alert tcp any any -> "+c.want+" any (sid:1; rev:1;)")
	}
	for _, c := range []struct {
		p    api.Ports
		want string
	}{
		{spans(false), "any"},
		{spans(true), "!any"},
		{spans(false, 0, 0), "0"},
		{spans(true, 65535, 65535), "!65535"},
		{spans(false, 80, 81), "80-81"},
		{spans(true, 1, 65535), "!1-65535"},
		{spans(false, 0, 65535), "any"},
		{spans(true, 0, 65535), "!any"},
		{spans(false, 9, 9, 1, 3), "[1-3,9]"},
		{spans(true, 7, 7, 5, 5, 3, 3, 1, 1), "![1,3,5,7]"},
		{spans(false, 4, 9, 1, 3), "1-9"},
		{spans(true, 100, 65535, 0, 99), "!any"},
	} {
		tells(t, with(func(r *api.Rule) { r.FromPort = c.p }), "alert tcp any "+c.want+" -> any any (sid:1; rev:1;)")
		tells(t, with(func(r *api.Rule) { r.ToPort = c.p }), "alert tcp any any -> any "+c.want+" (sid:1; rev:1;)")
	}
	tells(t, api.Rule{
		Action: api.Block, Proto: api.UDP, Both: true, Sid: 1, Rev: 1,
		From: set(false, 1, 32), FromPort: spans(false, 2, 2), To: set(false, 3, 32), ToPort: spans(false, 4, 4),
	}, "block udp 0.0.0.1/32 2 <> 0.0.0.3/32 4 (sid:1; rev:1;)")
	tells(t, with(func(r *api.Rule) {
		r.Proto, r.FromPort, r.ToPort = api.ICMP, spans(false, 0, 65535), spans(false, 9, 65535, 0, 8)
	}),
		"alert icmp any any -> any any (sid:1; rev:1;)")
}

// P12.1: each option by itself, at the least that is told and at the last place there is; and what of them is not told.
func TestContents(t *testing.T) {
	sought := api.Content{Bytes: "s"}
	for _, c := range []struct {
		c    api.Content
		want string
	}{
		{api.Content{Bytes: "a"}, `content:"a";`},
		{api.Content{Bytes: "a\n|"}, `content:"a|0A|\|";`},
		{api.Content{Bytes: "a", Not: true}, `content:!"a";`},
		{api.Content{Bytes: "a", Nocase: true}, `content:"a"; nocase;`},
		{api.Content{Bytes: "a", Offset: 1}, `content:"a"; offset:1;`},
		{api.Content{Bytes: "a", Offset: 65535}, `content:"a"; offset:65535;`},
		{api.Content{Bytes: "a", Depth: 1}, `content:"a"; depth:1;`},
		{api.Content{Bytes: "ab", Depth: 65535}, `content:"ab"; depth:65535;`},
		{api.Content{Bytes: "ab", Nocase: true, Not: true, Offset: 3, Depth: 2}, `content:!"ab"; nocase; offset:3; depth:2;`},
		{api.Content{Bytes: "a", Rel: true}, `content:"a"; distance:0;`},
		{api.Content{Bytes: "a", Rel: true, Distance: 1}, `content:"a"; distance:1;`},
		{api.Content{Bytes: "a", Rel: true, Distance: -1}, `content:"a"; distance:-1;`},
		{api.Content{Bytes: "a", Rel: true, Distance: 65535}, `content:"a"; distance:65535;`},
		{api.Content{Bytes: "a", Rel: true, Distance: -65535}, `content:"a"; distance:-65535;`},
		{api.Content{Bytes: "a", Rel: true, Within: 1}, `content:"a"; distance:0; within:1;`},
		{api.Content{Bytes: "a", Rel: true, Within: 65535}, `content:"a"; distance:0; within:65535;`},
		{api.Content{Bytes: "ab", Rel: true, Nocase: true, Distance: -7, Within: 2}, `content:"ab"; nocase; distance:-7; within:2;`},
	} {
		if !c.c.Rel {
			tells(t, having(c.c), "alert tcp any any -> any any ("+c.want+" sid:1; rev:1;)")
			tells(t, having(c.c, c.c), "alert tcp any any -> any any ("+c.want+" "+c.want+" sid:1; rev:1;)")
		}
		tells(t, having(sought, c.c), `alert tcp any any -> any any (content:"s"; `+c.want+" sid:1; rev:1;)")
		tells(t, having(sought, c.c, sought, c.c), `alert tcp any any -> any any (content:"s"; `+c.want+` content:"s"; `+c.want+" sid:1; rev:1;)")
	}
}

// P12.1: flow, sid and rev, behind the contents and in this order.
func TestRuleOptions(t *testing.T) {
	for flow, want := range map[int]string{0: "", 1: "flow:server; ", 2: "flow:client; "} {
		for _, sid := range []int{1, 2, 10, 999999999} {
			for _, rev := range []int{1, 2, 10, 999999999} {
				numbers := fmt.Sprintf("sid:%d; rev:%d;)", sid, rev)
				r := plain()
				r.Flow, r.Sid, r.Rev = flow, sid, rev
				tells(t, r, "alert tcp any any -> any any ("+want+numbers)
				r.Contents = []api.Content{{Bytes: "a", Nocase: true}}
				tells(t, r, `alert tcp any any -> any any (content:"a"; nocase; `+want+numbers)
			}
		}
	}
}

// P12.1: a rule that has the most of everything.
func TestGreatest(t *testing.T) {
	r := greatest(999999999)
	b := `"|` + strings.Repeat("FF ", 15) + `FF|"`
	nets := "![255.255.255.251/32,255.255.255.252/32,255.255.255.253/32,255.255.255.254/32]"
	list := "![60000-60001,60003-60004,60006-60007,60009-60010]"
	rel := "content:" + b + "; nocase; distance:-65535; within:65535; "
	tells(t, r, "reject tcp "+nets+" "+list+" <> "+nets+" "+list+" (content:"+b+"; nocase; offset:65535; depth:65535; "+rel+rel+rel+"flow:server; sid:999999999; rev:999999999;)")
	r.Contents = append(r.Contents, api.Content{Bytes: "a"})
	tells(t, r, "")
}

// greatest is a rule whose text is as long as one may be.
func greatest(sid int) api.Rule {
	b := strings.Repeat("\xff", api.MaxPattern)
	rel := api.Content{Bytes: b, Nocase: true, Rel: true, Distance: -api.MaxPlace, Within: api.MaxPlace}
	nets := set(true, 0xfffffffb, 32, 0xfffffffc, 32, 0xfffffffd, 32, 0xfffffffe, 32)
	list := spans(true, 60009, 60010, 60006, 60007, 60003, 60004, 60000, 60001)
	return api.Rule{
		Action: api.Reject, Proto: api.TCP, Both: true, From: nets, To: nets, FromPort: list, ToPort: list, Flow: api.ToServer, Sid: sid, Rev: api.MaxSid,
		Contents: []api.Content{{Bytes: b, Nocase: true, Offset: api.MaxPlace, Depth: api.MaxPlace}, rel, rel, rel},
	}
}

// modelRule is what the chapter says of the text of a rule that may be: a field for each of its words.
func modelRule(r api.Rule) string {
	l := []string{
		strings.Fields("alert drop reject block")[r.Action-1], map[int]string{0: "ip", 1: "icmp", 6: "tcp", 17: "udp"}[r.Proto],
		cidr.Text(r.From), ports.Text(r.FromPort), map[bool]string{false: "->", true: "<>"}[r.Both], cidr.Text(r.To), ports.Text(r.ToPort),
	}
	var o []string
	for _, c := range r.Contents {
		o = append(o, fmt.Sprint("content:", strings.Repeat("!", map[bool]int{true: 1}[c.Not]), modelBytes(c.Bytes)))
		if c.Nocase {
			o = append(o, "nocase")
		}
		for _, x := range []struct {
			name string
			n    int
			told bool
		}{{"offset", c.Offset, c.Offset != 0}, {"depth", c.Depth, c.Depth != 0}, {"distance", c.Distance, c.Rel}, {"within", c.Within, c.Rel && c.Within != 0}} {
			if x.told {
				o = append(o, fmt.Sprintf("%s:%d", x.name, x.n))
			}
		}
	}
	if r.Flow != 0 {
		o = append(o, "flow:"+[]string{"server", "client"}[r.Flow-1])
	}
	o = append(o, fmt.Sprintf("sid:%d", r.Sid), fmt.Sprintf("rev:%d", r.Rev))
	return strings.Join(l, " ") + " (" + strings.Join(o, "; ") + ";)"
}

// broken is rules that may not be, for one clause each.
func broken() []api.Rule {
	bytes := func(n int) api.Content { return api.Content{Bytes: strings.Repeat("a", n)} }
	five := []uint32{1, 32, 2, 32, 3, 32, 4, 32, 5, 32}
	l := []api.Rule{
		{},
		having(bytes(0)), having(bytes(17)), having(bytes(1), bytes(1), bytes(1), bytes(1), bytes(1)),
		having(api.Content{Bytes: "a", Offset: -1}), having(api.Content{Bytes: "a", Offset: 65536}),
		having(api.Content{Bytes: "a", Depth: -1}), having(api.Content{Bytes: "a", Depth: 65536}), having(api.Content{Bytes: "ab", Depth: 1}),
		having(api.Content{Bytes: "a", Distance: 1}), having(api.Content{Bytes: "a", Within: 1}), having(api.Content{Bytes: "a", Rel: true}),
		having(bytes(1), api.Content{Bytes: "a", Rel: true, Not: true}), having(bytes(1), api.Content{Bytes: "a", Rel: true, Offset: 1}),
		having(bytes(1), api.Content{Bytes: "ab", Rel: true, Within: 1}), having(bytes(1), api.Content{Bytes: "a", Rel: true, Distance: -65536}),
		having(api.Content{Bytes: "a", Not: true}, api.Content{Bytes: "a", Rel: true}),
	}
	for _, change := range []func(r *api.Rule){
		func(r *api.Rule) { r.Action = 0 }, func(r *api.Rule) { r.Action = 5 }, func(r *api.Rule) { r.Action = -1 },
		func(r *api.Rule) { r.Proto = 2 }, func(r *api.Rule) { r.Proto = -1 },
		func(r *api.Rule) { r.Flow = 3 }, func(r *api.Rule) { r.Flow = -1 },
		func(r *api.Rule) { r.Sid = 0 }, func(r *api.Rule) { r.Sid = 1000000000 }, func(r *api.Rule) { r.Rev = 0 }, func(r *api.Rule) { r.Rev = 1000000000 },
		func(r *api.Rule) { r.From = set(false, 1, 33) }, func(r *api.Rule) { r.To = set(true, five...) }, func(r *api.Rule) { r.From = set(false, five...) },
		func(r *api.Rule) { r.FromPort = spans(false, 2, 1) }, func(r *api.Rule) { r.ToPort = spans(true, 1, 65536) }, func(r *api.Rule) { r.ToPort = spans(false, 1, 1, 2, 2, 3, 3, 4, 4, 5, 5) },
		func(r *api.Rule) { r.Proto, r.ToPort = api.ICMP, spans(false, 80, 80) }, func(r *api.Rule) { r.Proto, r.FromPort = api.ICMP, spans(true) },
	} {
		l = append(l, with(change))
	}
	return l
}

// P12.1: a rule that rule's Check says no to has no text, nor have rules among which there is one.
func TestBroken(t *testing.T) {
	for _, r := range broken() {
		tells(t, r, "")
		other := plain()
		other.Sid = 77
		for _, l := range [][]api.Rule{{r}, {other, r}, {r, other}} {
			if got := All(l); got != "" {
				t.Errorf("%v: %q", l, got)
			}
		}
	}
}

// several is n rules that may be together.
func several(n int) []api.Rule {
	var l []api.Rule
	for i := range n {
		r := having(api.Content{Bytes: oneByte(i + 1)})
		r.Action, r.Sid = 1+i%4, 900-i
		l = append(l, r)
	}
	return l
}

// P12.1: All of no rule, of one, of as many as there may be, in their order; and of one more.
func TestAll(t *testing.T) {
	if got := All(nil) + All([]api.Rule{}); got != "" {
		t.Errorf("%q", got)
	}
	want := `alert tcp any any -> any any (content:"|01|"; sid:900; rev:1;)` + "\n"
	if got := All(several(1)); got != want {
		t.Errorf("%q", got)
	}
	want += `drop tcp any any -> any any (content:"|02|"; sid:899; rev:1;)` + "\n"
	if got := All(several(2)); got != want {
		t.Errorf("%q", got)
	}
	want = ""
	for n := range api.MaxRules {
		want += modelRule(several(n + 1)[n]) + "\n"
		if got := All(several(n + 1)); got != want {
			t.Errorf("%d: %q", n+1, got)
		}
	}
	for _, n := range []int{api.MaxRules + 1, api.MaxRules + 2, 200} {
		if got := All(several(n)); got != "" {
			t.Errorf("%d: %q", n, got)
		}
	}
}

// P12.1: rules of which two have one Sid have no text.
func TestAllTwice(t *testing.T) {
	for i := range 5 {
		for j := range i {
			l := several(5)
			l[i].Sid = l[j].Sid
			if got := All(l); got != "" {
				t.Errorf("%d as %d: %q", i, j, got)
			}
		}
	}
}
