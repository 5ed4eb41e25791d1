package rule

import (
	"fmt"
	"slices"
	"strconv"
	"strings"
	"testing"

	"rampart/api"
	"rampart/cidr"
	"rampart/ports"
)

// gram is what may stand behind some tokens: whether the text may be over there, and what may stand behind one token more (nil: that one is none).
type gram struct {
	over bool
	next func(token string) *gram
}

// then is what goes on behind a piece of a text.
type then func() *gram

// either is one of several.
func either(l ...*gram) *gram {
	over := slices.ContainsFunc(l, func(g *gram) bool { return g.over })
	return &gram{over, func(token string) *gram {
		var may []*gram
		for _, g := range l {
			if n := g.next(token); n != nil {
				may = append(may, n)
			}
		}
		if len(may) == 0 {
			return nil
		}
		return either(may...)
	}}
}

// these is one of these tokens; words are told in small letters.
func these(tokens string, on then) *gram {
	return &gram{false, func(token string) *gram {
		if !strings.HasPrefix(token, `"`) && slices.Contains(strings.Fields(tokens), strings.ToLower(token)) {
			return on()
		}
		return nil
	}}
}

// numberOf is a number from one to another one.
func numberOf(least, most int, on func(n int) *gram) *gram {
	return &gram{false, func(token string) *gram {
		n, err := strconv.Atoi(token)
		if err != nil || !isDigits(token) || n < least || n > most {
			return nil
		}
		return on(n)
	}}
}

func isDigits(token string) bool {
	return strings.Trim(token, "0123456789") == ""
}

func isWord(token string) bool {
	c := token[0] | 32
	return 'a' <= c && c <= 'z'
}

// bytesOf is bytes.
func bytesOf(on then) *gram {
	return &gram{false, func(token string) *gram {
		if token[0] != '"' {
			return nil
		}
		return on()
	}}
}

// chain is tokens, one behind the other.
func chain(tokens string, on then) *gram {
	l := strings.Fields(tokens)
	if len(l) == 0 {
		return on()
	}
	return these(l[0], func() *gram { return chain(strings.Join(l[1:], " "), on) })
}

// maybe is a token or not, and what goes on.
func maybe(token string, on then) *gram {
	return either(these(token, on), on())
}

// itemsOf is a text in which these vars are known.
func itemsOf(vars []string) *gram {
	again := func() *gram { return itemsOf(vars) }
	item := either(
		these("var", func() *gram {
			return &gram{false, func(token string) *gram {
				if !isWord(token) {
					return nil
				}
				known := append(slices.Clone(vars), "$"+strings.ToLower(token))
				return these("=", func() *gram {
					return addressesOf(vars, func() *gram { return itemsOf(known) })
				})
			}}
		}),
		these("alert drop reject block", func() *gram {
			return these("tcp udp icmp ip", func() *gram {
				return endOf(vars, func() *gram {
					return these("-> <>", func() *gram {
						return endOf(vars, func() *gram {
							return these("(", func() *gram { return optionsOf(nil, nil, false, again) })
						})
					})
				})
			})
		}),
	)
	return &gram{true, item.next}
}

// endOf is addresses and ports.
func endOf(vars []string, on then) *gram {
	return addressesOf(vars, func() *gram { return portsOf(on) })
}

func addressesOf(vars []string, on then) *gram {
	return maybe("!", func() *gram {
		return either(these("any", on), netOf(on), these("[", func() *gram { return listedOf(netOf, on) }), these(strings.Join(vars, " "), on))
	})
}

func portsOf(on then) *gram {
	return maybe("!", func() *gram {
		return either(these("any", on), spanOf(on), these("[", func() *gram { return listedOf(spanOf, on) }))
	})
}

// listedOf is parts with `,` between, and `]`.
func listedOf(part func(on then) *gram, on then) *gram {
	return part(func() *gram {
		return either(these("]", on), these(",", func() *gram { return listedOf(part, on) }))
	})
}

func netOf(on then) *gram {
	number := func(on then) *gram { return numberOf(0, 255, func(int) *gram { return on() }) }
	dotted := func(on then) *gram { return these(".", func() *gram { return number(on) }) }
	return number(func() *gram {
		return dotted(func() *gram {
			return dotted(func() *gram {
				return dotted(func() *gram {
					return either(these("/", func() *gram { return numberOf(0, 32, func(int) *gram { return on() }) }), on())
				})
			})
		})
	})
}

func spanOf(on then) *gram {
	return numberOf(0, 65535, func(from int) *gram {
		return either(these("-", func() *gram { return numberOf(from, 65535, func(int) *gram { return on() }) }), on())
	})
}

// optionsOf is options, behind those of the rule, and of its last content, if there is one.
func optionsOf(ofRule, ofContent []string, content bool, on then) *gram {
	l := []*gram{these(")", on), these("content", func() *gram {
		return chain(":", func() *gram {
			return maybe("!", func() *gram {
				return bytesOf(func() *gram { return chain(";", func() *gram { return optionsOf(ofRule, nil, true, on) }) })
			})
		})
	})}
	option := func(name, before string, most int, of []string, end func(of []string) *gram) {
		if slices.Contains(of, name) {
			return
		}
		done := func() *gram { return chain(";", func() *gram { return end(append(slices.Clone(of), name)) }) }
		value := func() *gram { return numberOf(0, most, func(int) *gram { return done() }) }
		l = append(l, these(name, func() *gram {
			switch before {
			case "":
				return done()
			case ": -":
				return chain(":", func() *gram { return maybe("-", value) })
			case ": side":
				return chain(":", func() *gram { return these("server client", done) })
			}
			return chain(before, value)
		}))
	}
	rule := func(of []string) *gram { return optionsOf(of, ofContent, content, on) }
	last := func(of []string) *gram { return optionsOf(ofRule, of, content, on) }
	option("flow", ": side", 0, ofRule, rule)
	option("sid", ":", 999999999, ofRule, rule)
	option("rev", ":", 999999999, ofRule, rule)
	if content {
		option("nocase", "", 0, ofContent, last)
		option("offset", ":", 65535, ofContent, last)
		option("depth", ":", 65535, ofContent, last)
		option("within", ":", 65535, ofContent, last)
		option("distance", ": -", 65535, ofContent, last)
	}
	return either(l...)
}

// wrongAt is at which of the tokens a text is none by the model: the first one that is wrong, the last one, if one is missing; 0, if it is a text. It begins at a place behind some tokens.
func wrongAt(g *gram, behind int, tokens []string) int {
	for i, token := range tokens {
		if g = g.next(token); g == nil {
			return behind + i + 1
		}
	}
	if !g.over {
		return behind + len(tokens)
	}
	return 0
}

// asText tells by the test whether Parse refuses tokens, a line each, where the model does.
func asText(t *testing.T, tokens []string, at int) {
	t.Helper()
	got := read(t, strings.Join(tokens, "\n"))
	switch {
	case at > 0 && (got.e != api.ErrText || got.line != at):
		t.Errorf("%q: %+v, want ErrText at %d", tokens, got, at)
	case at == 0 && got.e == api.ErrText:
		t.Errorf("%q: %+v, want a text", tokens, got)
	case got.e == api.ErrBig && got.line != 0:
		t.Errorf("%q: %+v, want line 0", tokens, got)
	}
}

// tokenPool is tokens of all kinds: words of rules, another one; numbers at the last places; bytes and vars that say what words and signs say.
func tokenPool() []string {
	return strings.Fields(`alert DROP reject block tcp udp icmp IP any var server client content nocase offset depth within distance flow sid rev hop a
		0 5 32 33 80 255 256 65535 65536 999999999 1000000000 999999999999
		"x" "" "any" "(" "->" "sid" "alert" "5" $a $b $any $sid
		( ) ; : , / [ ] ! - . = -> <>`)
}

// bases is texts with a blank between two tokens, each form somewhere.
func bases() [][]string {
	var l [][]string
	for _, s := range []string{
		"var a = any alert tcp $a any -> ! $a any ( sid : 1 ; )",
		"var a = ! 1 . 2 . 3 . 4 / 5 var a = $a",
		"var a = [ 1 . 2 . 3 . 4 / 5 , 1 . 2 . 3 . 4 ] drop udp any 5 <> any ! any ( )",
		"reject icmp ! any any -> 1 . 1 . 1 . 1 [ 80 - 90 , 5 , 7 - 7 ] ( rev : 2 ; flow : client ; sid : 1 ; )",
		"block ip [ 1 . 2 . 3 . 4 ] ! 80 - 81 -> any [ 9 ] ( content : \"a\" ; sid : 1 ; nocase ; )",
		"alert tcp any any -> any any ( content : ! \"a\" ; nocase ; offset : 1 ; depth : 2 ; content : \"b\" ; nocase ; distance : - 4 ; within : 3 ; flow : server ; sid : 5 ; )",
		"alert tcp any any -> any any ( sid : 5 ; ) alert tcp any any -> any any ( sid : 6 ; ) var b = any",
	} {
		l = append(l, strings.Fields(s))
	}
	return l
}

// P11.1, P11.2, P11.4: each token of a text in turn left out, doubled, replaced, or with another one ahead of it: the first one that is none is told.
func TestEachToken(t *testing.T) {
	pool := tokenPool()
	for _, base := range bases() {
		asText(t, base, 0)
		g := itemsOf(nil)
		for i, token := range base {
			ahead, behind := base[:i], base[i+1:]
			try := func(instead ...string) {
				asText(t, slices.Concat(ahead, instead, behind), wrongAt(g, i, slices.Concat(instead, behind)))
			}
			try()
			try(token, token)
			for _, other := range pool {
				try(other)
				try(other, token)
			}
			asText(t, ahead, wrongAt(g, i, nil))
			g = g.next(token)
		}
		for _, other := range pool {
			asText(t, append(slices.Clone(base), other), wrongAt(g, len(base), []string{other}))
		}
	}
}

// P11.1, P11.4: all texts of one token or two, and those of three that begin with `var` or with an action.
func TestAllShort(t *testing.T) {
	pool := tokenPool()
	for _, a := range pool {
		asText(t, []string{a}, wrongAt(itemsOf(nil), 0, []string{a}))
		for _, b := range pool {
			l := []string{a, b}
			asText(t, l, wrongAt(itemsOf(nil), 0, l))
			if a != "var" && a != "alert" {
				continue
			}
			for _, c := range pool {
				l := []string{a, b, c}
				asText(t, l, wrongAt(itemsOf(nil), 0, l))
			}
		}
	}
}

// P11.1, P11.2, P11.4: tokens thrown one behind the other, most of them such as may stand there.
func TestWalks(t *testing.T) {
	throw := thrower()
	pool := tokenPool()
	whole := 0
	for range 4000 {
		var l []string
		g, at := itemsOf(nil), 0
		for range 2 + throw(400) {
			token := pool[throw(len(pool))]
			for throw(60) > 0 && g.next(token) == nil {
				token = pool[throw(len(pool))]
			}
			l = append(l, token)
			if g = g.next(token); g == nil {
				at = len(l)
				for range throw(5) {
					l = append(l, pool[throw(len(pool))])
				}
				break
			}
			if g.over && throw(3) == 0 {
				break
			}
		}
		if g != nil && !g.over {
			at = len(l)
		}
		if at == 0 {
			whole++
		}
		asText(t, l, at)
	}
	if whole < 20 {
		t.Error("texts that are whole:", whole)
	}
}

// maker makes a text and what it says.
type maker struct {
	throw func(below int) int
	b     strings.Builder
	vars  map[string]api.Set
	big   bool
	rules []api.Rule
	lines []int
}

// put puts tokens down, blanks between them that turn nothing but lines.
func (m *maker) put(tokens ...string) {
	for _, token := range tokens {
		m.b.WriteString([]string{" ", " ", "\t", "  ", "\n", " #x $ \"\n", "\r\n"}[m.throw(7)])
		if isWord(token) && m.throw(3) == 0 {
			token = strings.ToUpper(token[:1]) + token[1:]
		}
		m.b.WriteString(token)
	}
}

// number puts a number down, now and then with zeros ahead.
func (m *maker) number(n int) int {
	m.put(strings.Repeat("0", m.throw(8)/6) + strconv.Itoa(n))
	return n
}

// not puts `!` down, or not.
func (m *maker) not() bool {
	if m.throw(3) > 0 {
		return false
	}
	m.put("!")
	return true
}

// parts puts all, one part, or several down, and answers how many: 0 are all.
func (m *maker) parts(part func()) {
	n := []int{0, 0, 1, 1, 2, 3, 4, 4 + m.throw(20)/19}[m.throw(8)]
	switch {
	case n == 0:
		m.put("any")
	case n == 1 && m.throw(2) == 0:
		part()
	default:
		m.put("[")
		for i := range n {
			if i > 0 {
				m.put(",")
			}
			part()
		}
		m.put("]")
	}
}

// set puts addresses down.
func (m *maker) set() api.Set {
	s := api.Set{Not: m.not()}
	if name := m.name(); m.throw(3) == 0 {
		if known, ok := m.vars[name]; ok {
			m.put("$" + []string{name, strings.ToUpper(name)}[m.throw(2)])
			return api.Set{Not: s.Not != known.Not, Nets: known.Nets}
		}
	}
	m.parts(func() {
		n := api.Net{Bits: 32}
		for i := range 4 {
			if i > 0 {
				m.put(".")
			}
			n.Addr = n.Addr<<8 + uint32(m.number([]int{0, 1, 10, 255, m.throw(256)}[m.throw(5)]))
		}
		if m.throw(2) == 0 {
			m.put("/")
			n.Bits = m.number(m.throw(33))
		}
		s.Nets = append(s.Nets, n)
	})
	m.big = m.big || len(s.Nets) > 4
	return s
}

// name is one of a few names.
func (m *maker) name() string {
	return []string{"a", "b", "home", "any"}[m.throw(4)]
}

// ports puts ports down.
func (m *maker) ports() api.Ports {
	p := api.Ports{Not: m.not()}
	m.parts(func() {
		from := m.number([]int{0, 1, 79, 80, 81, 65535, m.throw(65536)}[m.throw(7)])
		s := api.Span{From: from, To: from}
		if m.throw(2) == 0 {
			m.put("-")
			s.To = m.number(from + m.throw(65536-from))
		}
		p.Spans = append(p.Spans, s)
	})
	m.big = m.big || len(p.Spans) > 4
	return p
}

// bytes puts bytes down, each in one of the ways to tell it.
func (m *maker) bytes() string {
	n := []int{1, 2, 5, 16, m.throw(18)}[m.throw(5)]
	text, said := `"`, ""
	for range n {
		v := []int{'a', 'B', ' ', '"', '|', '\\', m.throw(256)}[m.throw(7)]
		said += string([]byte{byte(v)})
		switch {
		case m.throw(3) == 0, v < 32, v > 126:
			text += fmt.Sprintf([]string{"|%02x|", "| %02X |"}[m.throw(2)], v)
		case v == '"', v == '|', v == '\\':
			text += `\` + string(rune(v))
		default:
			text += string(rune(v))
		}
	}
	m.put(text + `"`)
	return said
}

// option puts an option's name, and what stands ahead of its value, down.
func (m *maker) option(name string, value func()) {
	m.put(name)
	if value != nil {
		m.put(":")
		value()
	}
	m.put(";")
}

// content puts a content and its options down; ahead: whether one that is Rel may stand there.
func (m *maker) content(ahead bool) api.Content {
	var c api.Content
	m.option("content", func() { c.Not, c.Bytes = m.throw(2) == 0 && m.not(), m.bytes() })
	some := func() int { return []int{0, len(c.Bytes), 16 + m.throw(300), 65535, 65535, m.throw(30)}[m.throw(6)] }
	l := []func(){func() { m.option("nocase", nil); c.Nocase = true }}
	if ahead && !c.Not && m.throw(2) == 0 || m.throw(30) == 0 {
		l = append(l,
			func() { m.option("within", func() { c.Rel, c.Within = true, m.number(some()) }) },
			func() {
				m.option("distance", func() {
					sign := 1
					if m.throw(2) == 0 {
						m.put("-")
						sign = -1
					}
					c.Rel, c.Distance = true, sign*m.number(some())
				})
			})
	} else {
		l = append(l, func() { m.option("offset", func() { c.Offset = m.number(some()) }) }, func() { m.option("depth", func() { c.Depth = m.number(some()) }) })
	}
	m.some(l)
	return c
}

// some does some of these, in any order.
func (m *maker) some(l []func()) {
	for n := m.throw(len(l) + 1); n > 0; n-- {
		i := m.throw(len(l))
		l[i]()
		l = slices.Delete(l, i, i+1)
	}
}

// rule puts a rule down.
func (m *maker) rule(sid int) {
	r := api.Rule{Rev: 1}
	name := func(l ...string) int {
		i := m.throw(len(l))
		m.put(l[i])
		return i
	}
	r.Action = 1 + name("alert", "drop", "reject", "block")
	m.lines = append(m.lines, 1+strings.Count(m.b.String(), "\n"))
	r.Proto = []int{6, 17, 0, 1}[name([]string{"tcp", "udp", "ip", "icmp"}[:3+m.throw(12)/11]...)]
	r.From, r.FromPort = m.set(), m.ports()
	r.Both = name("->", "<>") == 1
	r.To, r.ToPort = m.set(), m.ports()
	m.put("(")
	for range m.throw(3) + m.throw(10)/9*2 {
		r.Contents = append(r.Contents, m.content(slices.ContainsFunc(r.Contents, func(c api.Content) bool { return !c.Not })))
	}
	m.some([]func(){
		func() { m.option("rev", func() { r.Rev = m.number([]int{1, 2, 999999999, m.throw(40)}[m.throw(4)]) }) },
		func() { m.option("flow", func() { r.Flow = 1 + name("server", "client") }) },
	})
	if m.throw(40) > 0 {
		m.option("sid", func() { r.Sid = m.number(sid) })
	}
	m.put(")")
	m.rules = append(m.rules, r)
}

// want is what Parse should answer.
func (m *maker) want() answer {
	if m.big {
		return answer{e: api.ErrBig}
	}
	for i, r := range m.rules {
		if !modelCheck(r) {
			return answer{line: m.lines[i], e: api.ErrRule}
		}
	}
	seen := map[int]bool{}
	for i, r := range m.rules {
		if seen[r.Sid] {
			return answer{line: m.lines[i], e: api.ErrTwice}
		}
		seen[r.Sid] = true
		m.rules[i].From, m.rules[i].To = cidr.Clean(r.From), cidr.Clean(r.To)
		m.rules[i].FromPort, m.rules[i].ToPort = ports.Clean(r.FromPort), ports.Clean(r.ToPort)
	}
	return answer{l: m.rules}
}

// P11.1 to P11.5: texts thrown together of items, and what they say.
func TestThrownTexts(t *testing.T) {
	throw := thrower()
	counts := map[api.Errno]int{}
	for range 4000 {
		m := &maker{throw: throw, vars: map[string]api.Set{}}
		for range throw(6) {
			if throw(3) == 0 {
				name := m.name()
				m.put("var", name, "=")
				m.vars[name] = m.set()
				continue
			}
			m.rule([]int{1, 999999999, 1 + throw(1000), 1 + throw(1000), 1 + throw(1000)}[throw(5)])
		}
		got, want := read(t, m.b.String()), m.want()
		if got.e != want.e || got.line != want.line || !slices.EqualFunc(got.l, want.l, same) {
			t.Fatalf("%s:\n%+v, want\n%+v", m.b.String(), got, want)
		}
		counts[want.e]++
	}
	if counts[api.OK] < 500 || counts[api.ErrBig] < 50 || counts[api.ErrRule] < 50 || counts[api.ErrTwice] < 50 {
		t.Error(counts)
	}
}

// R1: any text at all has an answer.
func TestAnything(t *testing.T) {
	throw := thrower()
	pool := append(tokenPool(), "%", "\"", "#", "<", "\n", "\n", "\x00", "\xff", "a\"b", "1a")
	for range 3000 {
		var b strings.Builder
		for range throw(60) {
			b.WriteString(pool[throw(len(pool))])
			b.WriteString([]string{"", " "}[throw(2)])
		}
		read(t, b.String())
	}
	for _, unit := range []string{"(", "[", "!", "var ", "var a = ", "var a = any ", "alert ", "$a ", "1.", "1,", "-", ";", ")", "alert tcp any any -> any any ()", "sid:1;", "nocase;"} {
		for _, ahead := range []string{"", "var a = ", "var a = [", "alert tcp any [", head + "(", head + "(content:\"a\";"} {
			read(t, ahead+strings.Repeat(unit, (api.MaxText-len(ahead))/len(unit)))
		}
	}
}
