package rule

import (
	"fmt"
	"slices"
	"strconv"
	"strings"
	"testing"

	"rampart/api"
	"rampart/cidr"
	"rampart/ports"
)

// answer is what Parse answers.
type answer struct {
	l    []api.Rule
	line int
	e    api.Errno
}

// read is what Parse answers; P11.4, P11.5: whatever the text, nothing beside an error, and without one rules that may be, their sets clean.
func read(t *testing.T, s string) answer {
	t.Helper()
	l, line, e := Parse(s)
	if e != api.OK && len(l) > 0 || e == api.OK && (line != 0 || All(l) != api.OK) {
		t.Errorf("%.300q: %v, %d, %d", s, l, line, e)
	}
	for _, r := range l {
		clean := copied(r)
		clean.From, clean.To = cidr.Clean(r.From), cidr.Clean(r.To)
		clean.FromPort, clean.ToPort = ports.Clean(r.FromPort), ports.Clean(r.ToPort)
		if !same(clean, r) || !modelCheck(r) {
			t.Errorf("%.300q: %+v, which may not be, or is not clean", s, r)
		}
	}
	return answer{l, line, e}
}

// parses tells by the test whether a text is these rules.
func parses(t *testing.T, s string, l ...api.Rule) {
	t.Helper()
	if got := read(t, s); got.e != api.OK || !slices.EqualFunc(got.l, l, same) {
		t.Errorf("%.300q: %+v, want %+v", s, got, l)
	}
}

// refuses tells by the test whether a text is refused with that error and that line.
func refuses(t *testing.T, s string, line int, e api.Errno) {
	t.Helper()
	if got := read(t, s); got.line != line || got.e != e {
		t.Errorf("%.300q: line %d, error %d, want line %d, error %d", s, got.line, got.e, line, e)
	}
}

// wrong tells by the test whether a text that has a token a line is refused at that token, the first one being 1.
func wrong(t *testing.T, tokens string, at int) {
	t.Helper()
	refuses(t, strings.Join(strings.Fields(tokens), "\n"), at, api.ErrText)
}

// with is plain, changed.
func with(change func(r *api.Rule)) api.Rule {
	r := plain(1)
	change(&r)
	return r
}

// set is a set of nets: addresses and bits, by turns.
func set(not bool, numbers ...uint32) api.Set {
	s := api.Set{Not: not}
	for pair := range slices.Chunk(numbers, 2) {
		s.Nets = append(s.Nets, api.Net{Addr: pair[0], Bits: int(pair[1])})
	}
	return s
}

// spans is a set of spans: where each begins and ends, by turns.
func spans(not bool, ends ...int) api.Ports {
	p := api.Ports{Not: not}
	for pair := range slices.Chunk(ends, 2) {
		p.Spans = append(p.Spans, api.Span{From: pair[0], To: pair[1]})
	}
	return p
}

const head = "alert tcp any any -> any any "

// P11.1, the example.
func TestExample(t *testing.T) {
	parses(t, `alert tcp any any -> any 80 (content:"a"; sid:1;)`, api.Rule{Action: api.Alert, Proto: api.TCP, ToPort: one(80, 80), Contents: []api.Content{{Bytes: "a"}}, Sid: 1, Rev: 1})
}

// P11.1: a text of nothing is no rules: no items, no tokens even.
func TestNothing(t *testing.T) {
	for _, s := range []string{"", " ", "\n\n", "#", "# alert tcp\n\t\r\n", "var a = any", "var a = any var b = !$a\nvar a = 1.2.3.4"} {
		parses(t, s)
	}
}

// P11.1: each action, each protocol, both arrows.
func TestHeads(t *testing.T) {
	actions := []string{"alert", "drop", "reject", "block"}
	protos := map[string]int{"tcp": 6, "udp": 17, "icmp": 1, "ip": 0}
	for i, action := range actions {
		for name, proto := range protos {
			for _, arrow := range []string{"->", "<>"} {
				s := fmt.Sprintf("%s %s any any %s any any (sid:1;)", action, name, arrow)
				want := with(func(r *api.Rule) { r.Action, r.Proto, r.Both = i+1, proto, arrow == "<>" })
				parses(t, s, want)
				parses(t, strings.ToUpper(s), want)
				parses(t, strings.ReplaceAll(s, " ", "\n#x\n"), want)
			}
		}
	}
}

// P11.1: each form of addresses, with `!` and without, on both sides.
func TestAddresses(t *testing.T) {
	for _, c := range []struct {
		s string
		l []uint32
	}{
		{"any", nil},
		{"1.2.3.4", []uint32{0x01020304, 32}},
		{"0.0.0.0", []uint32{0, 32}},
		{"255.255.255.255", []uint32{0xffffffff, 32}},
		{"255.254.253.252/32", []uint32{0xfffefdfc, 32}},
		{"128.0.0.1/31", []uint32{0x80000000, 31}},
		{"10.1.2.3/8", []uint32{0x0a000000, 8}},
		{"255.255.255.255/1", []uint32{0x80000000, 1}},
		{"255.255.255.255/0", []uint32{0, 0}},
		{"010.001 . 2 . 03 / 08", []uint32{0x0a000000, 8}},
		{"[1.2.3.4]", []uint32{0x01020304, 32}},
		{"[1.2.3.4/16]", []uint32{0x01020000, 16}},
		{"[9.0.0.1,1.2.3.4/16]", []uint32{0x09000001, 32, 0x01020000, 16}},
		{"[ 9.0.0.1 , 8.0.0.0/7,\n1.2.3.4/30, 1.2.3.4 ]", []uint32{0x08000000, 7, 0x01020304, 30}},
		{"[4.0.0.4,3.0.0.3,2.0.0.2,1.0.0.1]", []uint32{0x04000004, 32, 0x03000003, 32, 0x02000002, 32, 0x01000001, 32}},
		{"[4.0.0.4,4.0.0.4,4.0.0.4,4.0.0.4]", []uint32{0x04000004, 32}},
		{"[1.1.1.1,0.0.0.0/0]", []uint32{0, 0}},
	} {
		for _, not := range []string{"", "!", "! "} {
			want := set(not != "", c.l...)
			parses(t, "alert tcp "+not+c.s+" any -> any any (sid:1;)", with(func(r *api.Rule) { r.From = want }))
			parses(t, "alert tcp any any <> "+not+c.s+" any (sid:1;)", with(func(r *api.Rule) { r.To, r.Both = want, true }))
			parses(t, "var v = "+not+c.s+"\nalert tcp any any -> $v any (sid:1;)", with(func(r *api.Rule) { r.To = want }))
			parses(t, "var v = "+not+c.s+"\nalert tcp !$v any -> any any (sid:1;)", with(func(r *api.Rule) { r.From = set(not == "", c.l...) }))
		}
	}
}

// P11.1: each of a net's numbers, at its last place and one beyond.
func TestNetNumbers(t *testing.T) {
	for n := range 300 {
		for at := range 4 {
			numbers := []string{"1", "2", "3", "4"}
			numbers[at] = strconv.Itoa(n)
			s := "alert tcp any any -> " + strings.Join(numbers, ".") + " any (sid:1;)"
			if n > 255 {
				refuses(t, s, 1, api.ErrText)
				wrong(t, "alert tcp any any -> [ "+strings.Join(numbers, " . "), 7+2*at)
				continue
			}
			shift := 24 - 8*at
			addr := uint32(0x01020304)&^(255<<shift) | uint32(n)<<shift
			parses(t, s, with(func(r *api.Rule) { r.To = set(false, addr, 32) }))
		}
		s := fmt.Sprintf("alert tcp 0.0.0.0/%d any -> any any (sid:1;)", n)
		if n > 32 {
			refuses(t, s, 1, api.ErrText)
			wrong(t, fmt.Sprintf("alert tcp 0 . 0 . 0 . 0 / %d any -> any any ( )", n), 11)
			continue
		}
		parses(t, s, with(func(r *api.Rule) { r.From = set(false, 0, uint32(n)) }))
	}
	for _, n := range []string{"65536", "4294967296", "4294967297", "999999999999"} {
		wrong(t, "var a = "+n, 4)
		wrong(t, "var a = 1 . "+n, 6)
		wrong(t, "var a = 1 . 1 . "+n, 8)
		wrong(t, "var a = 1 . 1 . 1 . "+n, 10)
		wrong(t, "var a = 1 . 1 . 1 . 1 / "+n, 12)
	}
}

// P11.1: each form of ports, with `!` and without, on both sides.
func TestPorts(t *testing.T) {
	for _, c := range []struct {
		s string
		l []int
	}{
		{"any", nil},
		{"80", []int{80, 80}},
		{"0", []int{0, 0}},
		{"65535", []int{65535, 65535}},
		{"0-0", []int{0, 0}},
		{"1-3", []int{1, 3}},
		{"007 - 0008", []int{7, 8}},
		{"65535-65535", []int{65535, 65535}},
		{"0-65534", []int{0, 65534}},
		{"0-65535", nil},
		{"[80]", []int{80, 80}},
		{"[80-90]", []int{80, 90}},
		{"[90,80]", []int{80, 80, 90, 90}},
		{"[4,9-10,11]", []int{4, 4, 9, 11}},
		{"[ 9 ,\n1 - 2 , 5, 7-7 ]", []int{1, 2, 5, 5, 7, 7, 9, 9}},
		{"[5,5,5,5]", []int{5, 5}},
		{"[30000-65535,0-40000]", nil},
	} {
		for _, not := range []string{"", "!", "! "} {
			want := spans(not != "", c.l...)
			parses(t, "alert tcp any "+not+c.s+" -> any any (sid:1;)", with(func(r *api.Rule) { r.FromPort = want }))
			parses(t, "alert tcp any any->any "+not+c.s+"(sid:1;)", with(func(r *api.Rule) { r.ToPort = want }))
		}
	}
	parses(t, "alert tcp any 5->any 7-9(sid:1;)", with(func(r *api.Rule) { r.FromPort, r.ToPort = one(5, 5), one(7, 9) }))
	parses(t, "alert tcp any 5-8<>any !7(sid:1;)", with(func(r *api.Rule) { r.FromPort, r.ToPort, r.Both = one(5, 8), spans(true, 7, 7), true }))
}

// P11.1: a span's end is not less than its beginning, and no number is more than 65535.
func TestSpans(t *testing.T) {
	tried := []int{0, 1, 2, 79, 80, 81, 65534, 65535, 65536, 65537, 131072, 1 << 32, 1<<32 + 80, 999999999999}
	for _, from := range tried {
		for _, to := range tried {
			tokens := fmt.Sprintf("alert tcp any any -> any %d - %d ( sid : 1 ; )", from, to)
			listed := fmt.Sprintf("alert tcp any any -> any [ 5 , %d - %d ] ( sid : 1 ; )", from, to)
			switch {
			case from > 65535:
				wrong(t, tokens, 7)
				wrong(t, listed, 10)
			case to < from, to > 65535:
				wrong(t, tokens, 9)
				wrong(t, listed, 12)
			default:
				parses(t, tokens, with(func(r *api.Rule) { r.ToPort = ports.Clean(one(from, to)) }))
				parses(t, listed, with(func(r *api.Rule) { r.ToPort = ports.Clean(spans(false, 5, 5, from, to)) }))
			}
		}
	}
}

// P11.1: a var is the addresses that were told last: of vars, turned by `!`, and turned twice.
func TestVars(t *testing.T) {
	home := set(false, 0x0a000000, 8, 0x0b000000, 8)
	notHome := set(true, home.Nets[0].Addr, 8, home.Nets[1].Addr, 8)
	const told = "var home = [10.0.0.0/8,11.0.0.0/8]\n"
	for _, c := range []struct {
		vars, use string
		want      api.Set
	}{
		{"", "$home", home}, {"", "!$home", notHome}, {"", "$HOME", home}, {"", "! $Home", notHome},
		{"var out = !$home", "$out", notHome}, {"var out = !$home", "!$out", home},
		{"var a = $home var b = $a var c = !$b var d = !$c var e = !$d", "$e", notHome},
		{"var a = $home var b = $a var c = !$b var d = !$c var e = !$d", "!$e", home},
		{"var home = 1.2.3.4", "$home", set(false, 0x01020304, 32)},
		{"var home = any", "$home", set(false)}, {"var home = any", "!$home", set(true)},
		{"var home = !any", "$home", set(true)}, {"var home = !any", "!$home", set(false)},
		{"var home = !$home", "$home", notHome}, {"var home = !$home var home = !$home", "$home", home},
		{"var a = !$home var home = 1.2.3.4", "$a", notHome}, // a is what home was
		{"var HOME = 1.2.3.4", "$home", set(false, 0x01020304, 32)},
		{"var homes = 1.2.3.4 var hom = 1.2.3.5", "$home", home},
	} {
		parses(t, told+c.vars+" alert tcp any any -> "+c.use+" any (sid:1;)", with(func(r *api.Rule) { r.To = c.want }))
		parses(t, told+c.vars+" alert tcp "+c.use+" any -> any any (sid:1;)", with(func(r *api.Rule) { r.From = c.want }))
	}
	// Told anew between two rules: each has what it was.
	parses(t, "var a = 1.1.1.1 alert tcp $a any -> any any (sid:1;) var a = 2.2.2.2 alert tcp $a any -> !$a any (sid:2;)",
		with(func(r *api.Rule) { r.From = set(false, 0x01010101, 32) }),
		with(func(r *api.Rule) { r.From, r.To, r.Sid = set(false, 0x02020202, 32), set(true, 0x02020202, 32), 2 }))
	// Any word is a name: the words of rules too.
	for _, name := range []string{"var", "any", "alert", "tcp", "content", "sid", "x", "abcdefghijklmnopqrst", "a1"} {
		parses(t, "var "+name+" = 1.1.1.1 alert tcp $"+name+" any -> any any (sid:1;)", with(func(r *api.Rule) { r.From = set(false, 0x01010101, 32) }))
	}
}

// P11.1, P11.4: a var that is not known: never told, told later, of another name, of itself; in a net's or a port's place.
func TestVarsUnknown(t *testing.T) {
	wrong(t, "alert tcp $a any -> any any ( sid : 1 ; )", 3)
	wrong(t, "alert tcp ! $a any -> any any ( sid : 1 ; )", 4)
	wrong(t, "alert tcp any any -> $a any ( sid : 1 ; ) var a = any", 6)
	wrong(t, "var a = $a", 4)
	wrong(t, "var a = ! $a", 5)
	wrong(t, "var a = any var b = $c", 8)
	wrong(t, "var a = $b var b = any", 4)
	wrong(t, "var a = any alert tcp $aa any -> any any ( )", 7)
	wrong(t, "var aa = any alert tcp $a any -> any any ( )", 7)
	wrong(t, "var a = any alert tcp [ $a ] any -> any any ( )", 8)
	wrong(t, "var a = any alert tcp any $a -> any any ( )", 8)
	wrong(t, "var a = any alert tcp any ! $a -> any any ( )", 9)
	wrong(t, "var a = any alert tcp a any -> any any ( )", 7)
	wrong(t, "var a = any alert tcp any any -> any any ( flow : $a ; )", 15)
}

// P11.2: each option by itself, and none.
func TestOptionsAlone(t *testing.T) {
	parses(t, head+"(sid:1;)", plain(1))
	parses(t, head+"(sid:1;rev:7;)", with(func(r *api.Rule) { r.Rev = 7 }))
	parses(t, head+"(sid:1;rev:1;)", plain(1))
	parses(t, head+"(sid:1;flow:server;)", with(func(r *api.Rule) { r.Flow = 1 }))
	parses(t, head+"(sid:1;flow:client;)", with(func(r *api.Rule) { r.Flow = 2 }))
	parses(t, head+"(sid:1;FLOW:Client;)", with(func(r *api.Rule) { r.Flow = 2 }))
	parses(t, head+"(sid:1;content:\"ab\";)", plain(1, api.Content{Bytes: "ab"}))
	parses(t, head+"(sid:1;content:!\"ab\";)", plain(1, api.Content{Bytes: "ab", Not: true}))
	parses(t, head+`(sid:1;content: "|00 ff|\"\|Z" ;)`, plain(1, api.Content{Bytes: "\x00\xff\"|Z"}))
	ahead := api.Content{Bytes: "x"}
	for _, c := range []struct {
		s    string
		want api.Content
	}{
		{"nocase;", api.Content{Nocase: true}},
		{"offset:5;", api.Content{Offset: 5}}, {"offset:0;", api.Content{}},
		{"depth:9;", api.Content{Depth: 9}}, {"depth:0;", api.Content{}},
		{"within:9;", api.Content{Rel: true, Within: 9}}, {"within:0;", api.Content{Rel: true}},
		{"distance:9;", api.Content{Rel: true, Distance: 9}}, {"distance:0;", api.Content{Rel: true}},
		{"distance:-9;", api.Content{Rel: true, Distance: -9}}, {"distance: - 0;", api.Content{Rel: true}},
		{"distance:-9;within:3;nocase;", api.Content{Rel: true, Distance: -9, Within: 3, Nocase: true}},
		{"within:3;nocase;distance:9;", api.Content{Rel: true, Distance: 9, Within: 3, Nocase: true}},
		{"depth:3;offset:4;nocase;", api.Content{Offset: 4, Depth: 3, Nocase: true}},
		{"NoCase;oFFset:4;DEPTH:3;", api.Content{Offset: 4, Depth: 3, Nocase: true}},
	} {
		c.want.Bytes = "ab"
		parses(t, head+"(content:\"x\";content:\"ab\";"+c.s+"sid:1;)", plain(1, ahead, c.want))
		parses(t, head+"(content:\"x\";sid:1;content:\"ab\";"+c.s+")", plain(1, ahead, c.want))
		if !c.want.Rel {
			c.want.Not = true
			parses(t, head+"(content:!\"ab\";"+c.s+"content:\"x\";sid:1;)", plain(1, c.want, ahead))
		}
	}
}

// P11.2: all options together, in any order; what is of a content is of the last one, whatever stands between.
func TestOptionsTogether(t *testing.T) {
	want := plain(9, api.Content{Bytes: "a", Nocase: true, Offset: 1, Depth: 2}, api.Content{Bytes: "b", Rel: true, Distance: -3, Within: 4})
	want.Flow, want.Rev = api.ToClient, 5
	const first, second = `content:"a";`, `content:"b";`
	ofRule := []string{"sid:9;", "rev:5;", "flow:client;"}
	ofFirst := []string{"nocase;", "offset:1;", "depth:2;"}
	ofSecond := []string{"distance:-3;", "within:4;"}
	throw := thrower()
	for range 2000 {
		for _, l := range [][]string{ofRule, ofFirst, ofSecond} {
			for i := range l {
				k := throw(i + 1)
				l[i], l[k] = l[k], l[i]
			}
		}
		l := slices.Concat([]string{first}, ofFirst, []string{second}, ofSecond)
		for _, o := range ofRule {
			l = slices.Insert(l, throw(len(l)+1), o)
		}
		parses(t, head+"("+strings.Join(l, "")+")", want)
	}
}

// P11.2: each number at its last place, and one beyond; and what stands in a number's place.
func TestOptionNumbers(t *testing.T) {
	ahead := api.Content{Bytes: "x"}
	for _, c := range []struct {
		name string
		most int
		set  func(r *api.Rule, n int)
	}{
		{"offset", 65535, func(r *api.Rule, n int) { r.Contents[1].Offset = n }},
		{"depth", 65535, func(r *api.Rule, n int) { r.Contents[1].Depth = n }},
		{"within", 65535, func(r *api.Rule, n int) { r.Contents[1].Rel, r.Contents[1].Within = true, n }},
		{"distance", 65535, func(r *api.Rule, n int) { r.Contents[1].Rel, r.Contents[1].Distance = true, n }},
		{"sid", 999999999, func(r *api.Rule, n int) { r.Sid = n }},
		{"rev", 999999999, func(r *api.Rule, n int) { r.Rev = n }},
	} {
		options := func(value string) string {
			sid := " sid : 1 ;"
			if c.name == "sid" {
				sid = ""
			}
			return "alert tcp any any -> any any ( content : \"x\" ; content : \"b\" ; " + c.name + " : " + value + " ;" + sid + " )"
		}
		for _, n := range []int{1, 2, 255, 256, 32767, 32768, 65534, 65535, 65536, 65537, 99999, 131072, 999999998, 999999999, 1000000000, 1<<32 + 1, 999999999999} {
			if n > c.most {
				wrong(t, options(strconv.Itoa(n)), 19)
				continue
			}
			want := plain(1, ahead, api.Content{Bytes: "b"})
			c.set(&want, n)
			parses(t, options(strconv.Itoa(n)), want)
			parses(t, options("000"+strconv.Itoa(n)), want)
		}
		for _, s := range []string{"", "x", "\"1\"", "$x", ":", ")", "any", "!"} {
			wrong(t, options(s), 19)
		}
		if c.name != "distance" {
			wrong(t, options("- 1"), 19)
		}
	}
	parses(t, head+"(content:\"x\";content:\"b\";distance:-65535;sid:1;)", plain(1, ahead, api.Content{Bytes: "b", Rel: true, Distance: -65535}))
	for _, s := range []string{"- 65536", "- - 5", "- ;", "- ! 5", "- x"} {
		wrong(t, "alert tcp any any -> any any ( content : \"b\" ; distance : "+s+" ; sid : 1 ; )", 16)
	}
}

// P11.2, P11.4: an option of a content ahead of any content: at its name, however the options go on, and whatever is behind.
func TestOptionsAhead(t *testing.T) {
	for _, option := range []string{"nocase ;", "offset : 1 ;", "depth : 1 ;", "within : 1 ;", "distance : 1 ;", "distance : - 1 ;"} {
		wrong(t, "alert tcp any any -> any any ( "+option+" )", 9)
		wrong(t, "alert tcp any any -> any any ( "+option+" content : \"a\" ; sid : 1 ; )", 9)
		wrong(t, "alert tcp any any -> any any ( sid : 1 ; "+option+" content : \"a\" ; )", 13)
		// Another rule's content is none of this one.
		wrong(t, "alert tcp any any -> any any ( content : \"a\" ; sid : 1 ; ) drop udp any any <> any any ( "+option+" )", 26)
	}
}

// P11.2, P11.4: one of one name twice: of a rule, of a content; at the second name, though it says the same, or said nothing the first time. Of two contents, of two rules: it may.
func TestOptionsTwice(t *testing.T) {
	const start = "alert tcp any any -> any any ( content : \"x\" ; "
	for _, c := range []struct{ first, second string }{
		{"sid : 1 ;", "sid : 2 ;"}, {"sid : 1 ;", "sid : 1 ;"}, {"sid : 0 ;", "sid : 1 ;"}, {"sid : 1 ;", "sid : 0 ;"},
		{"rev : 1 ;", "rev : 1 ;"}, {"rev : 0 ;", "rev : 2 ;"}, {"rev : 2 ;", "rev : 1 ;"},
		{"flow : server ;", "flow : client ;"}, {"flow : client ;", "flow : client ;"},
		{"nocase ;", "nocase ;"}, {"offset : 0 ;", "offset : 1 ;"}, {"offset : 1 ;", "offset : 1 ;"},
		{"depth : 0 ;", "depth : 9 ;"}, {"depth : 9 ;", "depth : 0 ;"},
		{"within : 0 ;", "within : 9 ;"}, {"within : 9 ;", "within : 9 ;"},
		{"distance : 0 ;", "distance : 9 ;"}, {"distance : 9 ;", "distance : - 9 ;"}, {"distance : - 9 ;", "distance : - 9 ;"},
	} {
		n := len(strings.Fields(c.first))
		wrong(t, start+c.first+" "+c.second+" )", 13+n)
		for _, between := range []string{"nocase ;", "offset : 1 ;", "depth : 5 ;", "within : 5 ;", "distance : 5 ;", "sid : 5 ;", "rev : 5 ;", "flow : server ;"} {
			if strings.Fields(between)[0] == strings.Fields(c.first)[0] {
				continue
			}
			wrong(t, start+c.first+" "+between+" "+c.second+" )", 13+n+len(strings.Fields(between)))
		}
		ofRule := strings.Contains("sid rev flow", strings.Fields(c.first)[0])
		if between := "content : \"y\" ;"; ofRule {
			wrong(t, start+c.first+" "+between+" "+c.second+" )", 13+n+4)
		} else if got := read(t, start+c.first+" "+between+" "+c.second+" sid : 1 ; )"); got.e == api.ErrText {
			t.Error(c, "of two contents", got)
		}
		if got := read(t, start+c.first+" ) "+start+c.second+" )"); got.e == api.ErrText {
			t.Error(c, "of two rules", got)
		}
	}
	parses(t, head+`(content:"a";nocase;content:"b";nocase;offset:1;content:"c";offset:2;depth:3;content:"d";depth:4;sid:1;)`,
		plain(1, api.Content{Bytes: "a", Nocase: true}, api.Content{Bytes: "b", Nocase: true, Offset: 1}, api.Content{Bytes: "c", Offset: 2, Depth: 3}, api.Content{Bytes: "d", Depth: 4}))
}

// P11.2, P11.4: no rev is 1, no sid 0, which is a rule that may not be.
func TestOptionsNone(t *testing.T) {
	if got := read(t, head+"(sid:3;)"); len(got.l) != 1 || got.l[0].Rev != 1 {
		t.Error(got)
	}
	for _, s := range []string{"()", "(rev:1;)", "(content:\"a\";)", "(sid:0;)", "(sid:000;rev:1;)", "(sid:1;rev:0;)", "(rev:0;sid:1;)"} {
		refuses(t, head+s, 1, api.ErrRule)
		refuses(t, "\n\n"+head+s+"\n", 3, api.ErrRule)
	}
}

// P11.1, P11.4: what is cut off in the middle: of each form, whatever the last token is; its line is told.
func TestEnds(t *testing.T) {
	for _, c := range []struct {
		tokens string
		least  int // how many of them must be there; 0: all
	}{
		{"var a = any", 0},
		{"var a = 1 . 2 . 3 . 4 / 5", 10},
		{"var a = ! [ 1 . 2 . 3 . 4 / 5 , 6 . 7 . 8 . 9 ]", 0},
		{"alert tcp any any -> any any ( )", 0},
		{"alert tcp ! any ! any <> ! any ! any ( sid : 1 ; )", 0},
		{"drop udp 1 . 2 . 3 . 4 / 5 1 - 2 -> [ 1 . 2 . 3 . 4 , 1 . 2 . 3 . 4 / 5 ] ! [ 7 , 8 - 9 ] ( content : ! \"a\" ; nocase ; offset : 1 ; depth : 2 ; content : \"b\" ; within : 3 ; distance : - 4 ; flow : server ; rev : 5 ; )", 0},
		{"block icmp 1 . 2 . 3 . 4 5 <> [ 1 . 2 . 3 . 4 ] [ 5 ] ( flow : client ; )", 0},
	} {
		l := strings.Fields(c.tokens)
		least := len(l)
		if c.least > 0 {
			least = c.least
		}
		for n := 1; n <= len(l); n++ {
			if n >= least && n != len(l)-1 { // behind the last one's `/` a number is missing
				if got := read(t, strings.Join(l[:n], "\n")); got.e == api.ErrText {
					t.Error(l[:n], got)
				}
				continue
			}
			for _, behind := range []string{"", "\n\n", " # x\n ", "\n#"} {
				refuses(t, strings.Join(l[:n], "\n")+behind, n, api.ErrText)
				refuses(t, "var x = any\n"+strings.Join(l[:n], " ")+behind, 2, api.ErrText)
			}
		}
	}
}

// P11.4: lex's errors and their lines, ahead of all others.
func TestLexErrors(t *testing.T) {
	for _, bad := range []string{"%", "\"", "\"a|0|\"", "<", "$", "$1", "1a", "1000000000000", "abcdefghijklmnopqrstu", "\x80", "\"\t\"", "_", ">"} {
		refuses(t, bad, 1, api.ErrText)
		refuses(t, "\n\n"+bad, 3, api.ErrText)
		refuses(t, "hop\n;\n"+bad+"\n", 3, api.ErrText) // though something else is wrong ahead of it
		refuses(t, head+"()\n"+bad, 2, api.ErrText)
		refuses(t, strings.Repeat("var a = any\n", 17)+bad, 18, api.ErrText)
		refuses(t, head+"(sid:1;)"+head+"(sid:1;)\n"+bad+"\n"+bad, 2, api.ErrText)
	}
	for _, unit := range []string{" ", "\n", "hop ", "%", "#", head + "(sid:1;)\n", "var a = any "} {
		s := strings.Repeat(unit, api.MaxText/len(unit)+1)
		refuses(t, s+strings.Repeat(" ", api.MaxText+1-min(len(s), api.MaxText+1)), 0, api.ErrBig)
	}
	parses(t, head+"(sid:1;)"+strings.Repeat(" ", api.MaxText-len(head)-len("(sid:1;)")), plain(1))
	refuses(t, head+"(sid:1;)"+strings.Repeat(" ", api.MaxText+1-len(head)-len("(sid:1;)")), 0, api.ErrBig)
}

// P11.1, P11.4: tokens of another kind that say the same are none.
func TestOtherKinds(t *testing.T) {
	for i, tokens := range []string{
		"\"var\" a = any", "$var a = any", "\"alert\" tcp any any -> any any ( )", "$alert tcp any any -> any any ( )",
		"var \"a\" = any", "var $a = any",
		"var a \"=\" any", "alert \"tcp\" any any -> any any ( )", "alert $tcp any any -> any any ( )",
	} {
		wrong(t, tokens, []int{1, 1, 1, 1, 2, 2, 3, 2, 2}[i])
	}
	wrong(t, "var a = \"any\"", 4)
	wrong(t, "var a = \"!\" any", 4)
	wrong(t, "var a = \"[\" 1 . 1 . 1 . 1 ]", 4)
	wrong(t, "var a = [ 1 \".\" 1 . 1 . 1 ]", 6)
	wrong(t, "var a = [ 1 . 1 . 1 . 1 \",\" 1 . 1 . 1 . 1 ]", 12)
	wrong(t, "var a = [ 1 . 1 . 1 . 1 \"]\" var", 12)
	wrong(t, "var a = [ 1 . 1 . 1 . 1 \"/\" 5 ]", 12)
	wrong(t, "var a = 1 . 1 . 1 . 1 \"/\" 5", 11)
	wrong(t, "var a = any var b = \"a\"", 8)
	wrong(t, "alert tcp any any \"->\" any any ( )", 5)
	wrong(t, "alert tcp any any \"<>\" any any ( )", 5)
	wrong(t, "alert tcp any \"any\" -> any any ( )", 4)
	wrong(t, "alert tcp any 1 \"-\" 2 -> any any ( )", 5)
	wrong(t, "alert tcp any any -> any any \"(\" )", 8)
	wrong(t, "alert tcp any any -> any any ( \")\"", 9)
	for _, name := range []string{"content", "flow", "sid", "rev"} {
		wrong(t, "alert tcp any any -> any any ( \""+name+"\" : 1 ; )", 9)
		wrong(t, "alert tcp any any -> any any ( $"+name+" : 1 ; )", 9)
	}
	for _, name := range []string{"nocase", "offset", "depth", "within", "distance"} {
		wrong(t, "alert tcp any any -> any any ( content : \"a\" ; \""+name+"\" : 1 ; )", 13)
	}
	wrong(t, "alert tcp any any -> any any ( sid \":\" 1 ; )", 10)
	wrong(t, "alert tcp any any -> any any ( sid : 1 \";\" )", 12)
	wrong(t, "alert tcp any any -> any any ( sid : \"1\" ; )", 11)
	wrong(t, "alert tcp any any -> any any ( content : \"!\" \"a\" ; )", 12)
	wrong(t, "alert tcp any any -> any any ( content : a ; )", 11)
	wrong(t, "alert tcp any any -> any any ( content : $a ; )", 11)
	wrong(t, "alert tcp any any -> any any ( content : \"a\" ; distance : \"-\" 1 ; )", 15)
	wrong(t, "alert tcp any any -> any any ( flow : \"server\" ; )", 11)
	wrong(t, "alert tcp any any -> any any ( flow : any ; )", 11)
	wrong(t, "alert tcp any any -> any any ( flow : 1 ; )", 11)
}

// rulesText is so many rules, of a line each, with these Sids in turn.
func rulesText(sids ...int) string {
	var b strings.Builder
	for _, sid := range sids {
		b.WriteString(head + "(sid:" + strconv.Itoa(sid) + ";)\n")
	}
	return b.String()
}

// upTo is the numbers from 1 to n.
func upTo(n int) []int {
	var l []int
	for i := range n {
		l = append(l, i+1)
	}
	return l
}

// P11.4: MaxRules rules, and one more.
func TestHowManyRules(t *testing.T) {
	parses(t, rulesText(upTo(40)...), several(40)...)
	for _, n := range []int{41, 42, 80, 180} {
		refuses(t, rulesText(upTo(n)...), 0, api.ErrBig)
	}
	refuses(t, rulesText(slices.Repeat([]int{1}, 41)...), 0, api.ErrBig)
	refuses(t, rulesText(make([]int, 41)...), 0, api.ErrBig)
	refuses(t, rulesText(upTo(41)...)+"hop", 42, api.ErrText)
	refuses(t, rulesText(upTo(41)...)+"alert", 42, api.ErrText)
}

// P11.4: MaxVars items `var`, and one more: of names that differ, of one name, with rules between; they are not rules.
func TestHowManyVars(t *testing.T) {
	if api.MaxVars != 16 {
		t.Fatal(api.MaxVars)
	}
	for n := range 25 {
		var same, other, mixed strings.Builder
		for i := range n {
			same.WriteString("var a = any\n")
			fmt.Fprintf(&other, "var a%d = any\n", i)
			fmt.Fprintf(&mixed, "var a%d = 1.1.1.1\n%s(sid:%d;)\n", i, head, i+1)
		}
		if n > 16 {
			refuses(t, same.String(), 0, api.ErrBig)
			refuses(t, other.String(), 0, api.ErrBig)
			refuses(t, mixed.String(), 0, api.ErrBig)
			refuses(t, same.String()+"%", n+1, api.ErrText)
			refuses(t, same.String()+"var", n+1, api.ErrText)
			refuses(t, same.String()+head+"()", 0, api.ErrBig)
			continue
		}
		parses(t, same.String())
		parses(t, other.String())
		parses(t, mixed.String(), several(n)...)
		parses(t, same.String()+rulesText(upTo(40)...), several(40)...)
	}
}

// P11.4: MaxAddrs nets and MaxPorts spans, and one more, in each place where a set may stand; as they are told, not as they are clean.
func TestHowManyParts(t *testing.T) {
	if api.MaxAddrs != 4 || api.MaxPorts != 4 {
		t.Fatal(api.MaxAddrs, api.MaxPorts)
	}
	nets := func(n int) string { return "[" + strings.Repeat("1.1.1.1,", n-1) + "1.1.1.1]" }
	differ := func(n int) string { return "[5.5.5.5,4.4.4.4,3.3.3.3,2.2.2.2,1.1.1.1,6.6.6.6"[:n*8] + "]" }
	from := func(n int) string { return "[" + strings.Repeat("7,", n-1) + "7]" }
	rising := func(n int) string { return "[1,3,5-6,8,9-10,12"[:[]int{0, 2, 4, 8, 10, 15, 18}[n]] + "]" }
	for n := 1; n <= 6; n++ {
		for _, not := range []string{"", "!"} {
			for _, s := range []string{
				"alert tcp " + not + nets(n) + " any -> any any (sid:1;)",
				"alert tcp any any -> " + not + nets(n) + " any (sid:1;)",
				"alert tcp any any -> " + not + differ(n) + " any (sid:1;)",
				"alert tcp any " + not + from(n) + " -> any any (sid:1;)",
				"alert tcp any any -> any " + not + from(n) + " (sid:1;)",
				"alert tcp any any -> any " + not + rising(n) + " (sid:1;)",
				"var a = " + not + nets(n),
				"var a = " + not + nets(n) + " var a = any " + head + "(sid:1;)",
				"var a = " + nets(n) + " alert tcp " + not + "$a any -> any any (sid:1;)",
				"var a = " + nets(n) + " var b = " + not + "$a alert tcp any any -> $b any (sid:1;)",
			} {
				got := read(t, s)
				if n <= 4 && got.e != api.OK || n > 4 && (got.e != api.ErrBig || got.line != 0) {
					t.Error(n, s, got)
				}
				refuses(t, s+"\n\n;", 3, api.ErrText)
			}
		}
	}
	for _, s := range []string{"[" + strings.Repeat("1,", 4000) + "1]", "[" + strings.Repeat("1-2,", 2000) + "1]"} {
		refuses(t, "alert tcp any "+s+" -> any any (sid:1;)", 0, api.ErrBig)
		refuses(t, "alert tcp any "+s+" -> any any (sid:1;", 1, api.ErrText)
	}
	refuses(t, "var a = ["+strings.Repeat("1.1.1.1,", 1000)+"1.1.1.1]", 0, api.ErrBig)
	// A set of more than there may be is no rule either; it is told ahead of that.
	refuses(t, "\nalert tcp "+nets(5)+" any -> any any (sid:0;)", 0, api.ErrBig)
	refuses(t, head+"()\nalert tcp any [1,2,3,4,5] -> any any (sid:1;)", 0, api.ErrBig)
	refuses(t, rulesText(1, 1)+"var a = "+nets(5), 0, api.ErrBig)
}

// P11.3, P11.4: each clause of Check that a text can break: the line in which the first such rule begins.
func TestRuleErrors(t *testing.T) {
	for _, s := range []string{
		head + "()", head + "(rev:1;)", head + "(sid:0;)", head + "(sid:1;rev:0;)",
		"alert icmp any 80 -> any any (sid:1;)", "alert icmp any any -> any 80 (sid:1;)", "alert icmp any !any -> any any (sid:1;)", "alert icmp any any <> any !any (sid:1;)",
		"alert icmp any 0-65534 -> any any (sid:1;)", "alert icmp any !0-65535 -> any any (sid:1;)", "alert icmp any any -> any [0-5,7-65535] (sid:1;)",
		head + `(content:"";sid:1;)`, head + `(content:"0123456789abcdefg";sid:1;)`, head + `(content:!"";sid:1;)`,
		head + `(content:"a";content:"a";content:"a";content:"a";content:"a";sid:1;)`,
		head + `(content:"ab";depth:1;sid:1;)`, head + `(content:!"ab";depth:1;sid:1;)`,
		head + `(content:"a";within:5;sid:1;)`, head + `(content:"a";distance:0;sid:1;)`, head + `(content:"a";within:0;sid:1;)`,
		head + `(content:!"a";content:"b";within:5;sid:1;)`, head + `(content:"a";content:!"b";within:5;sid:1;)`, head + `(content:"a";content:!"b";distance:0;sid:1;)`,
		head + `(content:"a";content:"b";within:5;offset:1;sid:1;)`, head + `(content:"a";content:"b";distance:5;depth:9;sid:1;)`, head + `(content:"a";content:"bc";within:1;sid:1;)`,
	} {
		refuses(t, s, 1, api.ErrRule)
		refuses(t, strings.ReplaceAll(s, " ", "\n"), 1, api.ErrRule)
		refuses(t, "# x\n\n"+strings.ReplaceAll(s, ";", ";\n")+"\n"+s+"\n", 3, api.ErrRule)
		refuses(t, rulesText(1, 2)+s+"\n"+s, 3, api.ErrRule)
		refuses(t, rulesText(1, 1, 1, 1)+"var a = any "+s, 5, api.ErrRule) // ahead of those that come twice
		refuses(t, s+"\n"+rulesText(1, 1), 1, api.ErrRule)
		refuses(t, "\n"+s+" hop", 2, api.ErrText)
		refuses(t, rulesText(upTo(40)...)+s, 0, api.ErrBig)
		refuses(t, strings.Repeat("var a = any ", 17)+s, 0, api.ErrBig)
	}
	// What is right beside them.
	for _, s := range []string{
		"alert icmp any 0-65535 -> any [5-65535,0-7] (sid:1;)", head + `(content:"0123456789abcdef";sid:1;)`, head + `(content:"a";content:"a";content:"a";content:"a";sid:1;)`,
		head + `(content:"ab";depth:2;sid:1;)`, head + `(content:"a";content:!"b";content:"c";within:1;sid:1;)`, head + `(content:"a";content:"bc";within:2;sid:1;)`, head + `(content:"a";content:"b";distance:1;offset:0;depth:0;sid:1;)`,
	} {
		if got := read(t, s); got.e != api.OK || len(got.l) != 1 {
			t.Error(s, got)
		}
	}
}

// P11.4: one Sid twice: the line in which the first rule begins whose Sid an earlier one has.
func TestTwiceErrors(t *testing.T) {
	for _, c := range []struct {
		sids []int
		line int
	}{
		{[]int{1, 1}, 2}, {[]int{1, 2, 1}, 3}, {[]int{1, 2, 2, 1}, 3}, {[]int{1, 2, 1, 2}, 3}, {[]int{1, 2, 3, 4, 2, 1}, 5}, {[]int{7, 7, 7}, 2}, {[]int{999999999, 1, 999999999}, 3},
	} {
		refuses(t, rulesText(c.sids...), c.line, api.ErrTwice)
		refuses(t, "\n#\n"+rulesText(c.sids...), c.line+2, api.ErrTwice)
		refuses(t, strings.ReplaceAll(rulesText(c.sids...), " ", "\n"), (c.line-1)*8+1, api.ErrTwice)
		refuses(t, rulesText(c.sids...)+head+"()", len(c.sids)+1, api.ErrRule)
		refuses(t, rulesText(c.sids...)+"hop", len(c.sids)+1, api.ErrText)
	}
	for later := range 40 {
		for earlier := range later {
			sids := upTo(40)
			sids[later] = sids[earlier]
			refuses(t, rulesText(sids...), later+1, api.ErrTwice)
		}
	}
	// Rules on one line, and others that differ in all but the Sid.
	refuses(t, head+"(sid:5;)"+head+"(sid:5;)", 1, api.ErrTwice)
	refuses(t, head+"(sid:5;)\n drop udp 1.1.1.1 5 <>\nany any (sid:5;rev:2;)", 2, api.ErrTwice)
}

// P11.4: which error comes first, of all pairs of them, whichever stands ahead in the text.
func TestOrder(t *testing.T) {
	faults := []struct {
		s    string // of one line
		e    api.Errno
		line bool // whether a line is told
	}{
		{"%", api.ErrText, true},
		{"hop", api.ErrText, true},
		{"alert tcp any [1,2,3,4,5] -> any any (sid:101;)", api.ErrBig, false},
		{head + "(sid:102;rev:0;)", api.ErrRule, true},
		{head + "(sid:7;)" + head + "(sid:7;)", api.ErrTwice, true},
	}
	for i, first := range faults {
		for _, second := range faults[i+1:] {
			line := func(n int) int {
				if first.line {
					return n
				}
				return 0
			}
			refuses(t, rulesText(1)+first.s+"\n"+rulesText(2)+second.s, line(2), first.e)
			refuses(t, rulesText(1)+second.s+"\n"+rulesText(2)+first.s, line(4), first.e)
		}
	}
	// Of two of one kind the first one.
	for _, f := range faults {
		want := 2
		if !f.line {
			want = 0
		}
		refuses(t, rulesText(1)+f.s+"\n"+rulesText(2)+f.s, want, f.e)
	}
}

// P11.4, R3: lists of an answer are new memory, spare room too: no two of them share any, though one var was in both.
func TestNewMemory(t *testing.T) {
	const s = "var a = [1.1.1.1,2.2.2.2,3.3.3.3]\nvar b = !$a\n" +
		"alert tcp $a [1,3] -> $a [1,3] (content:\"a\";content:\"b\";content:\"c\";sid:1;)\n" +
		"alert tcp $b any -> !$b any (content:\"a\";sid:2;)\n" +
		"alert tcp !$a any -> $a any (sid:3;)"
	want, _, e := Parse(s)
	if e != api.OK || len(want) != 3 {
		t.Fatal(want, e)
	}
	for spoiled := range 3 {
		got, _, _ := Parse(s)
		whole := []api.Rule{copied(got[0]), copied(got[1]), copied(got[2])}
		spoil := func(r api.Rule) {
			clear(r.From.Nets[:cap(r.From.Nets)])
			clear(r.FromPort.Spans[:cap(r.FromPort.Spans)])
			clear(r.Contents[:cap(r.Contents)])
			_ = append(r.Contents, api.Content{Bytes: "spoiled"})
		}
		spoil(got[spoiled])
		for i, r := range got {
			if i == spoiled {
				r.From, r.FromPort, r.Contents = whole[i].From, whole[i].FromPort, whole[i].Contents
			}
			if !same(r, whole[i]) {
				t.Error(spoiled, i, r)
			}
		}
		clear(got[:cap(got)])
		if again, _, _ := Parse(s); !slices.EqualFunc(again, want, same) {
			t.Error(spoiled, again)
		}
	}
}
