package rule

import (
	"slices"

	"rampart/api"
	"rampart/cidr"
	"rampart/lex"
	"rampart/ports"
)

// The greatest numbers of a net and of a span.
const (
	maxByte = 255
	maxBits = 32
	maxPort = 65535
)

// Parse is the rules of a text.
func Parse(s string) ([]api.Rule, int, api.Errno) {
	tokens, line, e := lex.All(s)
	if e != api.OK {
		return nil, line, e
	}
	t, line, e := textOf(tokens)
	if e != api.OK {
		return nil, line, e
	}
	if t.isBig() {
		return nil, 0, api.ErrBig
	}
	if at, e := errorOf(t.rules); e != api.OK {
		return nil, t.lines[at], e
	}
	return t.rules, 0, api.OK
}

// text is what a text says.
type text struct {
	rules   []api.Rule
	lines   []int              // in which each rule begins
	sets    map[string]api.Set // what each var is, by its name
	vars    int                // how many items were vars: of one name there may be several
	greater bool               // whether a set has more parts than it may have
}

// isBig tells whether a text has more of something than it may have.
func (t text) isBig() bool {
	return len(t.rules) > api.MaxRules || t.vars > api.MaxVars || t.greater
}

// fault is what the parser panics with: the line of a token that is none of a text.
type fault struct{ line int }

// textOf is what tokens say; or ErrText, and the line of the one that is wrong.
func textOf(l []lex.Token) (t text, line int, e api.Errno) {
	defer func() {
		switch found := recover().(type) {
		case nil:
		case fault:
			t, line, e = text{}, found.line, api.ErrText
		default: // it is not the text that is wrong: nothing may hide that
			panic(found)
		}
	}()
	p := parser{rest: l, text: text{sets: map[string]api.Set{}}}
	p.items()
	return p.text, 0, api.OK
}

// parser reads tokens: each of its calls takes those that it names, and panics with a fault at the first one that is another.
type parser struct {
	rest []lex.Token // what is not read yet
	line int         // of the token that was read last
	text
}

// fault is the fault of the token that was read last: it is wrong, or one is missing behind it.
func (p *parser) fault() fault {
	return fault{p.line}
}

// next reads a token, whichever it is.
func (p *parser) next() lex.Token {
	if len(p.rest) == 0 {
		panic(p.fault())
	}
	t := p.rest[0]
	p.rest, p.line = p.rest[1:], t.Line
	return t
}

// of reads a token of a kind.
func (p *parser) of(kind int) lex.Token {
	t := p.next()
	if t.Kind != kind {
		panic(p.fault())
	}
	return t
}

// sign reads that sign.
func (p *parser) sign(s string) {
	if p.of(lex.Sign).S != s {
		panic(p.fault())
	}
}

// number reads a number up to a greatest one.
func (p *parser) number(most int) int {
	n := p.of(lex.Number).N
	if n > most {
		panic(p.fault())
	}
	return n
}

// stands tells whether a token of a kind is the next one.
func (p *parser) stands(kind int) bool {
	return len(p.rest) > 0 && p.rest[0].Kind == kind
}

// takes reads that token, if it is the next one, and tells whether it is.
func (p *parser) takes(kind int, s string) bool {
	if !p.stands(kind) || p.rest[0].S != s {
		return false
	}
	p.next()
	return true
}

// items reads all items.
func (p *parser) items() {
	if len(p.rest) == 0 {
		return
	}
	if p.takes(lex.Word, "var") {
		p.varItem()
	} else {
		p.rule()
	}
	p.items()
}

// varItem reads a var behind its first word.
func (p *parser) varItem() {
	name := p.of(lex.Word).S
	p.sign("=")
	p.sets[name] = p.addresses() // asked ahead of that, the name is what it was
	p.vars++
}

// rule reads a rule.
func (p *parser) rule() {
	r := api.Rule{Action: p.action(), Rev: 1}
	p.lines = append(p.lines, p.line)
	r.Proto = p.protocol()
	r.From = cidr.Clean(p.addresses())
	r.FromPort = ports.Clean(p.ports())
	r.Both = p.arrow()
	r.To = cidr.Clean(p.addresses())
	r.ToPort = ports.Clean(p.ports())
	p.sign("(")
	p.options(&r, told{})
	p.rules = append(p.rules, r)
}

// action reads an action.
func (p *parser) action() int {
	switch p.of(lex.Word).S {
	case "alert":
		return api.Alert
	case "drop":
		return api.Drop
	case "reject":
		return api.Reject
	case "block":
		return api.Block
	}
	panic(p.fault())
}

// protocol reads a protocol.
func (p *parser) protocol() int {
	switch p.of(lex.Word).S {
	case "tcp":
		return api.TCP
	case "udp":
		return api.UDP
	case "icmp":
		return api.ICMP
	case "ip":
		return 0
	}
	panic(p.fault())
}

// arrow reads an arrow, and tells whether it goes both ways.
func (p *parser) arrow() bool {
	switch p.of(lex.Sign).S {
	case "->":
		return false
	case "<>":
		return true
	}
	panic(p.fault())
}

// addresses reads a set of addresses.
func (p *parser) addresses() api.Set {
	turned := p.takes(lex.Sign, "!")
	var s api.Set
	if p.stands(lex.Var) {
		s = p.known()
	} else {
		s.Nets = partsOf(p, p.net)
	}
	s.Not = s.Not != turned
	p.greater = p.greater || len(s.Nets) > api.MaxAddrs
	return s
}

// known reads a var that was told ahead.
func (p *parser) known() api.Set {
	s, ok := p.sets[p.of(lex.Var).S]
	if !ok {
		panic(p.fault())
	}
	return s
}

// ports reads a set of ports.
func (p *parser) ports() api.Ports {
	turned := p.takes(lex.Sign, "!")
	spans := partsOf(p, p.span)
	p.greater = p.greater || len(spans) > api.MaxPorts
	return api.Ports{Not: turned, Spans: spans}
}

// partsOf reads what a set has: all, which is no parts; parts in brackets; or one part.
func partsOf[T any](p *parser, part func() T) []T {
	switch {
	case p.takes(lex.Word, "any"):
		return nil
	case p.takes(lex.Sign, "["):
		return listOf(p, part, nil)
	}
	return []T{part()}
}

// listOf reads parts behind those that are ahead, and the bracket that ends them.
func listOf[T any](p *parser, part func() T, ahead []T) []T {
	l := append(ahead, part())
	if p.takes(lex.Sign, ",") {
		return listOf(p, part, l)
	}
	p.sign("]")
	return l
}

// net reads a net: without its bits it is one address.
func (p *parser) net() api.Net {
	a := p.number(maxByte)
	for range 3 {
		p.sign(".")
		a = a<<8 | p.number(maxByte)
	}
	bits := maxBits
	if p.takes(lex.Sign, "/") {
		bits = p.number(maxBits)
	}
	return api.Net{Addr: uint32(a), Bits: bits}
}

// span reads a span: without its end it is one port.
func (p *parser) span() api.Span {
	from := p.number(maxPort)
	to := from
	if p.takes(lex.Sign, "-") {
		to = p.number(maxPort)
	}
	if to < from {
		panic(p.fault())
	}
	return api.Span{From: from, To: to}
}

// told is which options were told that may be told once: of a rule, and of its last content.
type told struct{ ofRule, ofContent []string }

// options reads what is left of a rule's options, and the bracket that ends them.
func (p *parser) options(r *api.Rule, ahead told) {
	if p.takes(lex.Sign, ")") {
		return
	}
	ahead = p.option(r, ahead)
	p.sign(";")
	p.options(r, ahead)
}

// option reads an option up to the sign that ends it, and answers what is told with it.
func (p *parser) option(r *api.Rule, ahead told) told {
	name := p.of(lex.Word).S
	switch name {
	case "content":
		r.Contents = append(r.Contents, p.content())
		ahead.ofContent = nil
	case "flow", "sid", "rev":
		ahead.ofRule = p.once(name, ahead.ofRule)
		p.ruleOption(name, r)
	case "nocase", "offset", "depth", "within", "distance":
		if len(r.Contents) == 0 {
			panic(p.fault())
		}
		ahead.ofContent = p.once(name, ahead.ofContent)
		p.contentOption(name, &r.Contents[len(r.Contents)-1])
	default:
		panic(p.fault())
	}
	return ahead
}

// once is the names that are told with one more: the one that was read last, which may not be there yet.
func (p *parser) once(name string, ahead []string) []string {
	if slices.Contains(ahead, name) {
		panic(p.fault())
	}
	return append(ahead, name)
}

// content reads a content behind its name.
func (p *parser) content() api.Content {
	p.sign(":")
	not := p.takes(lex.Sign, "!")
	return api.Content{Bytes: p.of(lex.Bytes).S, Not: not}
}

// ruleOption reads an option of a rule behind its name.
func (p *parser) ruleOption(name string, r *api.Rule) {
	p.sign(":")
	switch name {
	case "flow":
		r.Flow = p.flow()
	case "sid":
		r.Sid = p.number(api.MaxSid)
	case "rev":
		r.Rev = p.number(api.MaxSid)
	}
}

// flow reads for which direction a rule is.
func (p *parser) flow() int {
	switch p.of(lex.Word).S {
	case "server":
		return api.ToServer
	case "client":
		return api.ToClient
	}
	panic(p.fault())
}

// contentOption reads an option of a content behind its name.
func (p *parser) contentOption(name string, c *api.Content) {
	if name == "nocase" {
		c.Nocase = true
		return
	}
	p.sign(":")
	switch name {
	case "offset":
		c.Offset = p.number(api.MaxPlace)
	case "depth":
		c.Depth = p.number(api.MaxPlace)
	case "within":
		c.Rel, c.Within = true, p.number(api.MaxPlace)
	case "distance":
		c.Rel, c.Distance = true, p.distance()
	}
}

// distance reads how far behind a content is: it may be less than nothing.
func (p *parser) distance() int {
	if p.takes(lex.Sign, "-") {
		return -p.number(api.MaxPlace)
	}
	return p.number(api.MaxPlace)
}
