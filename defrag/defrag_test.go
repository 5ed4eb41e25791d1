package defrag

import (
	"fmt"
	"math"
	"strings"
	"testing"

	"rampart/api"
)

// textOf is n bytes that look like nothing in particular, the same ones each time.
func textOf(n, seed int) string {
	b := make([]byte, n)
	x := uint32(seed)*2654435761 + 12345
	for i := range b {
		x = x*1664525 + 1013904223
		b[i] = byte(x >> 24)
	}
	return string(b)
}

// dice are numbers that look like nothing in particular, the same ones each time.
type dice uint64

// below is the next number, from 0 on and below n.
func (d *dice) below(n int) int {
	x := uint64(*d)
	x ^= x << 13
	x ^= x >> 7
	x ^= x << 17
	*d = dice(x)
	return int(x>>11) % n
}

// head is the head of a part of the datagram with that number.
func head(id, off int, more bool) api.IP {
	return api.IP{ID: id, Off: off, More: more, Proto: api.UDP, Src: 0x0a000001, Dst: 0x0a000002}
}

// answer is what Add answers.
type answer struct {
	whole string
	done  bool
	e     api.Errno
}

// String quotes the bytes, so that a failure can be read.
func (a answer) String() string {
	return fmt.Sprintf("%q %v %d", a.whole, a.done, a.e)
}

// added is what Add answers, in one.
func added(x *Table, i api.IP, body string) answer {
	whole, done, e := x.Add(i, body)
	return answer{whole, done, e}
}

// open is what Add answers while something is missing.
func open() answer { return answer{} }

// refused is what Add answers with an error.
func refused(e api.Errno) answer { return answer{e: e} }

// whole is what Add answers with the last part.
func whole(s string) answer { return answer{whole: s, done: true} }

// holds tells by the test whether a table has so many entries and bytes.
func holds(t *testing.T, x *Table, entries, bytes int, when string) {
	t.Helper()
	if x.Len() != entries || x.Bytes() != bytes {
		t.Errorf("%s: %d entries, %d bytes; want %d and %d", when, x.Len(), x.Bytes(), entries, bytes)
	}
}

// step is a call of Add, what it must answer, and what must lie there behind it.
type step struct {
	i              api.IP
	body           string
	want           answer
	entries, bytes int
}

// walk takes a table through steps.
func walk(t *testing.T, what string, x *Table, steps []step) {
	t.Helper()
	for k, s := range steps {
		if got := added(x, s.i, s.body); got != s.want {
			t.Errorf("%s, step %d: %v, want %v", what, k, got, s.want)
		}
		if x.Len() != s.entries || x.Bytes() != s.bytes {
			t.Errorf("%s, step %d: %d entries, %d bytes; want %d and %d", what, k, x.Len(), x.Bytes(), s.entries, s.bytes)
		}
	}
}

// P7.1, the example: two parts of eight bytes, the second first.
func TestExample(t *testing.T) {
	walk(t, "the second first", New(1, 1), []step{
		{head(1, 8, false), "89abcdef", open(), 1, 8},
		{head(1, 0, true), "01234567", whole("0123456789abcdef"), 0, 0},
	})
	walk(t, "the first first", New(1, 1), []step{
		{head(1, 0, true), "01234567", open(), 1, 8},
		{head(1, 8, false), "89abcdef", whole("0123456789abcdef"), 0, 0},
	})
}

// P7.1, New: most is cut to from 1 to MaxFrags.
func TestMost(t *testing.T) {
	for _, c := range [][2]int{
		{math.MinInt, 1}, {-1, 1}, {0, 1}, {1, 1}, {2, 2}, {17, 17},
		{api.MaxFrags - 1, api.MaxFrags - 1}, {api.MaxFrags, api.MaxFrags}, {api.MaxFrags + 1, api.MaxFrags}, {math.MaxInt, api.MaxFrags},
	} {
		x := New(c[0], 5)
		holds(t, x, 0, 0, "new")
		for n := range c[1] {
			if got := added(x, head(n, 8, true), "01234567"); got != open() {
				t.Error(c, n, got)
			}
			holds(t, x, n+1, 8*(n+1), "one more")
		}
		// Neither a new first part nor a new last one has room; a part of an entry that is there has.
		for n, more := range []bool{true, false} {
			if got := added(x, head(1000+n, 8, more), "01234567"); got != refused(api.ErrFull) {
				t.Error(c, more, got)
			}
			holds(t, x, c[1], 8*c[1], "one too many")
		}
		if got := added(x, head(c[1]-1, 16, false), "89"); got != open() {
			t.Error(c, got)
		}
		holds(t, x, c[1], 8*c[1]+2, "a part of one that is there")
		if got := added(x, head(c[1]-1, 0, true), "ABCDEFGH"); got != whole("ABCDEFGH0123456789") {
			t.Error(c, got)
		}
		// One that is whole makes room.
		if got := added(x, head(1000, 8, true), "01234567"); got != open() {
			t.Error(c, got)
		}
		holds(t, x, c[1], 8*c[1], "room again")
	}
}

// P7.1 and P7.2, New: ticks are cut to from 1 to MaxTicks.
func TestTicks(t *testing.T) {
	for _, c := range [][2]int{
		{math.MinInt, 1}, {-1, 1}, {0, 1}, {1, 1}, {2, 2}, {7, 7},
		{api.MaxTicks - 1, api.MaxTicks - 1}, {api.MaxTicks, api.MaxTicks}, {api.MaxTicks + 1, api.MaxTicks}, {math.MaxInt, api.MaxTicks},
	} {
		x := New(3, c[0])
		added(x, head(1, 8, true), "01234567")
		if got := x.Tick(c[1] - 1); got != 0 {
			t.Error(c, "one ahead of the last", got)
		}
		holds(t, x, 1, 8, "one ahead of the last")
		if got := x.Tick(1); got != 1 {
			t.Error(c, "the last", got)
		}
		holds(t, x, 0, 0, "the last")
		if got := x.Tick(1); got != 0 {
			t.Error(c, "behind the last", got)
		}
		added(x, head(1, 8, true), "01234567")
		if got := x.Tick(c[1]); got != 1 {
			t.Error(c, "all at once", got)
		}
		holds(t, x, 0, 0, "all at once")
	}
}

// P7.1, Add: what is no part is whole as it is, however long, and nothing is turned: not even the entry of its name.
func TestNoPart(t *testing.T) {
	bodies := []string{"", "x", "1234567", "12345678", textOf(api.MaxData, 1), textOf(api.MaxData+1, 2), textOf(70000, 3)}
	for _, off := range []int{0, -1, -8, math.MinInt} {
		for n, body := range bodies {
			x := New(1, 5)
			if got := added(x, head(1, off, false), body); got != whole(body) {
				t.Error("without an entry", off, n)
			}
			holds(t, x, 0, 0, "without an entry")
			added(x, head(1, 8, false), "89abcdef")
			for id := 1; id <= 2; id++ { // the entry's name, and another one while there is no room
				if got := added(x, head(id, off, false), body); got != whole(body) {
					t.Error("with an entry", off, n, id)
				}
				holds(t, x, 1, 8, "with an entry")
			}
			if got := added(x, head(1, 0, true), "01234567"); got != whole("0123456789abcdef") {
				t.Error("the entry", off, n, got)
			}
		}
	}
}

// P7.1, Add, ErrBytes: an empty body, Off below 0, More with bytes that are no multiple of 8; nothing is turned.
func TestBroken(t *testing.T) {
	type bad struct {
		off  int
		more bool
		body string
	}
	l := []bad{
		{0, true, ""}, {8, true, ""}, {1, false, ""}, {8, false, ""}, {api.MaxData, false, ""}, {api.MaxData, true, ""},
		{-1, true, "01234567"}, {-8, true, "01234567"}, {math.MinInt, true, "01234567"}, {-8, true, ""}, {-8, true, "0"},
		{-api.MaxData, true, textOf(api.MaxData, 1)},
		// where ErrBig applies too, ErrBytes is named first
		{api.MaxData + 1, true, ""}, {math.MaxInt, false, ""}, {api.MaxData, true, "x"}, {0, true, textOf(api.MaxData+1, 2)},
		{-1, true, textOf(api.MaxData+8, 3)}, {math.MaxInt, true, "1234567"},
	}
	for n := range 41 {
		if n%8 != 0 {
			l = append(l, bad{0, true, textOf(n, n)}, bad{16, true, textOf(n, n)})
		}
	}
	for k, b := range l {
		x := New(1, 5)
		if got := added(x, head(1, b.off, b.more), b.body); got != refused(api.ErrBytes) {
			t.Error("without an entry", k, got)
		}
		holds(t, x, 0, 0, "without an entry")
		added(x, head(1, 8, false), "89abcdef")
		for id := 1; id <= 2; id++ { // where ErrFull applies too, ErrBytes is named first
			if got := added(x, head(id, b.off, b.more), b.body); got != refused(api.ErrBytes) {
				t.Error("with an entry", k, id, got)
			}
			holds(t, x, 1, 8, "with an entry")
		}
		if got := added(x, head(1, 0, true), "01234567"); got != whole("0123456789abcdef") {
			t.Error("the entry", k, got)
		}
	}
}

// P7.1, Add: every number of bytes with More and without, at places that are no multiples of 8 too.
func TestLengths(t *testing.T) {
	for n := range api.MaxData + 1 {
		body := textOf(n, n)
		for _, off := range []int{0, 3} {
			want, bytes := open(), n
			if n == 0 || n%8 != 0 {
				want, bytes = refused(api.ErrBytes), 0
			} else if off+n > api.MaxData {
				want, bytes = refused(api.ErrBig), 0
			}
			x := New(1, 1)
			if got := added(x, head(1, off, true), body); got != want || x.Bytes() != bytes {
				t.Error("with More", n, off, got.e, x.Bytes())
			}
		}
		if n == 0 || n+8 > api.MaxData {
			continue
		}
		x := New(1, 1)
		added(x, head(1, 0, true), "01234567")
		if got := added(x, head(1, 8, false), body); got != whole("01234567"+body) {
			t.Error("without More", n, got.e)
		}
		holds(t, x, 0, 0, "whole")
	}
}

// P7.1, Add, ErrBig: Off and the bytes are above MaxData; the entry goes, if there is one.
func TestBig(t *testing.T) {
	type part struct {
		off  int
		more bool
		n    int
	}
	for k, p := range []part{
		{api.MaxData, false, 1}, {api.MaxData, true, 8}, {api.MaxData - 7, true, 8}, {api.MaxData - 8, false, 9}, {api.MaxData - 8, true, 16},
		{1, false, api.MaxData}, {1, true, api.MaxData}, {0, true, api.MaxData + 8}, {8, false, api.MaxData}, {0, true, 80000},
		{math.MaxInt, false, 1}, {math.MaxInt, true, 8}, {math.MaxInt - 7, true, 8}, {math.MaxInt - 8, false, 9}, {math.MaxInt - api.MaxData, true, api.MaxData},
	} {
		body := textOf(p.n, k)
		x := New(2, 5)
		if got := added(x, head(1, p.off, p.more), body); got != refused(api.ErrBig) {
			t.Error("without an entry", k, got.e)
		}
		holds(t, x, 0, 0, "without an entry")
		added(x, head(1, 8, false), "89abcdef")
		added(x, head(2, 0, true), "ABCDEFGH")
		// Without an entry, and no room: ErrBig is named ahead of ErrFull.
		if got := added(x, head(3, p.off, p.more), body); got != refused(api.ErrBig) {
			t.Error("no room", k, got.e)
		}
		holds(t, x, 2, 16, "no room")
		if got := added(x, head(1, p.off, p.more), body); got != refused(api.ErrBig) {
			t.Error("with an entry", k, got.e)
		}
		holds(t, x, 1, 8, "with an entry")
		// What lay there is forgotten, and the number in all too.
		walk(t, "anew", x, []step{
			{head(1, 0, true), "01234567", open(), 2, 16},
			{head(1, 8, true), "xxxxxxxx", open(), 2, 24},
			{head(1, 16, false), "y", whole("01234567xxxxxxxxy"), 1, 8},
			{head(2, 8, false), "I", whole("ABCDEFGHI"), 0, 0},
		})
	}
}

// P7.1, Add: Off and the bytes at MaxData are not above it.
func TestNotTooBig(t *testing.T) {
	all := textOf(api.MaxData, 9)
	for at := 1; at < api.MaxData; at++ {
		x := New(1, 5)
		if got := added(x, head(1, at, false), all[at:]); got != open() {
			t.Error(at, got.e)
		}
		holds(t, x, 1, api.MaxData-at, "the end")
		if got := added(x, head(1, 0, true), all[:at+7-(at+7)%8]); got != whole(all) {
			t.Error(at, got.e)
		}
		holds(t, x, 0, 0, "whole")
	}
	// All bytes that there may be, but no part that tells that they are all.
	walk(t, "no last part", New(1, 5), []step{
		{head(1, 0, true), all, open(), 1, api.MaxData},
		{head(1, 0, true), all, open(), 1, api.MaxData},
		{head(1, api.MaxData-8, true), all[:8], open(), 1, api.MaxData},
		{head(1, api.MaxData-1, false), "x", whole(all), 0, 0},
	})
}

// P7.1, Add: the first part without More tells how many in all; another one is not heard in that.
func TestTotal(t *testing.T) {
	walk(t, "a greater number behind", New(1, 5), []step{
		{head(1, 8, false), "ab", open(), 1, 2},
		{head(1, 8, false), "cdef", open(), 1, 2},
		{head(1, 64, false), "far", open(), 1, 2},
		{head(1, 0, true), "01234567", whole("01234567ab"), 0, 0},
	})
	walk(t, "a smaller number behind", New(1, 5), []step{
		{head(1, 16, false), "abcd", open(), 1, 4},
		{head(1, 8, false), "xy", open(), 1, 6},
		{head(1, 0, true), "01234567", open(), 1, 14},
		{head(1, 8, true), "ABCDEFGH", whole("01234567xyCDEFGHabcd"), 0, 0},
	})
	walk(t, "the same number again", New(1, 5), []step{
		{head(1, 8, false), "abcd", open(), 1, 4},
		{head(1, 8, false), "wxyz", open(), 1, 4},
		{head(1, 10, false), "wx", open(), 1, 4},
		{head(1, 0, true), "01234567", whole("01234567abcd"), 0, 0},
	})
	walk(t, "the least number there may be", New(1, 5), []step{
		{head(1, 1, false), "b", open(), 1, 1},
		{head(1, 0, true), "abcdefgh", whole("ab"), 0, 0},
	})
}

// P7.1, Add: what lies at the number in all, or behind it, goes; what comes there is not laid down.
func TestBehindTotal(t *testing.T) {
	walk(t, "it lay there", New(1, 5), []step{
		{head(1, 8, true), "89abcdefXXXXXXXX", open(), 1, 16},
		{head(1, 1992, true), "YYYYYYYY", open(), 1, 24},
		{head(1, 8, false), "zzzzzzzz", open(), 1, 8},
		{head(1, 0, true), "01234567", whole("0123456789abcdef"), 0, 0},
	})
	walk(t, "the last part's own place lay there, and it is whole", New(1, 5), []step{
		{head(1, 0, true), "0123456789ABCDEF", open(), 1, 16},
		{head(1, 8, false), "x", whole("012345678"), 0, 0},
	})
	walk(t, "one byte of it goes", New(1, 5), []step{
		{head(1, 8, true), "89abcdef", open(), 1, 8},
		{head(1, 8, false), "1234567", open(), 1, 7},
		{head(1, 0, true), "01234567", whole("0123456789abcde"), 0, 0},
	})
	walk(t, "it comes", New(1, 5), []step{
		{head(1, 16, false), "g", open(), 1, 1},
		{head(1, 17, true), "XXXXXXXX", open(), 1, 1},
		{head(1, 1992, true), "XXXXXXXX", open(), 1, 1},
		{head(1, 16, true), "XXXXXXXX", open(), 1, 1},
		{head(1, 1999, false), "X", open(), 1, 1},
		{head(1, 8, true), "89abcdefYYYYYYYY", open(), 1, 9},
		{head(1, 0, true), "01234567", whole("0123456789abcdefg"), 0, 0},
	})
	walk(t, "all of it lay behind", New(1, 5), []step{
		{head(1, 64, true), textOf(1600, 4), open(), 1, 1600},
		{head(1, 1, false), "b", open(), 1, 1},
		{head(1, 0, true), "abcdefgh", whole("ab"), 0, 0},
	})
}

// P7.1 and P7.3, Add: of bytes that came twice, with other values, the first ones count.
func TestFirstByte(t *testing.T) {
	walk(t, "the same place", New(1, 5), []step{
		{head(1, 0, true), "AAAAAAAA", open(), 1, 8},
		{head(1, 0, true), "BBBBBBBB", open(), 1, 8},
		{head(1, 8, false), "C", whole("AAAAAAAAC"), 0, 0},
	})
	walk(t, "around", New(1, 5), []step{
		{head(1, 8, true), "BBBBBBBB", open(), 1, 8},
		{head(1, 0, true), "AAAAAAAAAAAAAAAAAAAAAAAA", open(), 1, 24},
		{head(1, 20, false), "CCCCCCCC", whole("AAAAAAAABBBBBBBBAAAAAAAACCCC"), 0, 0},
	})
	walk(t, "one byte over", New(1, 5), []step{
		{head(1, 7, false), "CC", open(), 1, 2},
		{head(1, 0, true), "AAAAAAAA", whole("AAAAAAACC"), 0, 0},
	})
	// What is 0 lies there as any other.
	walk(t, "bytes that are 0", New(1, 5), []step{
		{head(1, 0, true), "\x00\x00\x00\x00\x00\x00\x00\x00", open(), 1, 8},
		{head(1, 0, true), "AAAAAAAA", open(), 1, 8},
		{head(1, 8, false), "\x00", whole("\x00\x00\x00\x00\x00\x00\x00\x00\x00"), 0, 0},
	})
}

// P7.1, an entry is of Src, Dst, Proto and ID: where one of them is unlike, it is another one.
func TestNames(t *testing.T) {
	base := head(1, 8, false)
	others := []func(*api.IP){
		func(i *api.IP) { i.Src++ },
		func(i *api.IP) { i.Dst++ },
		func(i *api.IP) { i.Proto = api.TCP },
		func(i *api.IP) { i.ID = 2 },
		func(i *api.IP) { i.Src, i.Dst = i.Dst, i.Src },
		func(i *api.IP) { i.Src ^= 1 << 31 },
		func(i *api.IP) { i.Dst ^= 1 << 31 },
		func(i *api.IP) { i.Proto = api.UDP + 256 },
		func(i *api.IP) { i.Proto = -1 },
		func(i *api.IP) { i.Proto = api.UDP + 1<<32 },
		func(i *api.IP) { i.ID = 1 + 65536 },
		func(i *api.IP) { i.ID = -1 },
		func(i *api.IP) { i.ID = math.MinInt },
		func(i *api.IP) { i.ID = 1 + 1<<32 },
		func(i *api.IP) { i.Proto, i.ID = i.ID, i.Proto },
	}
	x := New(len(others)+1, 5)
	added(x, base, "base")
	for k, turn := range others {
		i := base
		turn(&i)
		if got := added(x, i, "part"); got != open() {
			t.Error(k, got)
		}
		holds(t, x, k+2, 4*(k+2), "another one")
	}
	first := base
	first.Off, first.More = 0, true
	if got := added(x, first, "01234567"); got != whole("01234567base") {
		t.Error(got)
	}
	for k, turn := range others {
		i := first
		turn(&i)
		if got := added(x, i, "01234567"); got != whole("01234567part") {
			t.Error(k, got)
		}
	}
	holds(t, x, 0, 0, "all whole")
}

// P7.1, an entry is of nothing else: what the heads of its parts say beside is not looked at.
func TestNotNames(t *testing.T) {
	last, first := head(1, 8, false), head(1, 0, true)
	first.Tos, first.Keep, first.TTL, first.Opts = 255, true, -4, "opts"
	last.Tos, last.TTL, last.Opts = -1, 64, "\x01\x01\x01\x01"
	walk(t, "other heads", New(1, 5), []step{
		{last, "tail", open(), 1, 4},
		{first, "01234567", whole("01234567tail"), 0, 0},
	})
}

// P7.1, Add: entries that stand beside each other have nothing in common.
func TestBeside(t *testing.T) {
	walk(t, "beside", New(2, 5), []step{
		{head(1, 0, true), "AAAAAAAA", open(), 1, 8},
		{head(2, 8, false), "bbbb", open(), 2, 12},
		{head(3, 8, false), "cccc", refused(api.ErrFull), 2, 12},
		{head(1, 8, false), "aa", whole("AAAAAAAAaa"), 1, 4},
		{head(3, 8, false), "cccc", open(), 2, 8},
		{head(2, 0, true), "BBBBBBBB", whole("BBBBBBBBbbbb"), 1, 4},
		{head(3, 0, true), "CCCCCCCC", whole("CCCCCCCCcccc"), 0, 0},
		// An entry that was whole has gone: the same parts make one anew.
		{head(3, 0, true), "DDDDDDDD", open(), 1, 8},
		{head(3, 8, false), "d", whole("DDDDDDDDd"), 0, 0},
	})
}

// P7.1, New and R4: two tables have nothing in common.
func TestTwoTables(t *testing.T) {
	x, y := New(1, 5), New(1, 5)
	added(x, head(1, 0, true), "AAAAAAAA")
	holds(t, y, 0, 0, "the other one")
	added(y, head(1, 8, false), "b")
	y.Flush()
	holds(t, x, 1, 8, "the first one")
	if got := y.Tick(5); got != 0 {
		t.Error(got)
	}
	if got := added(x, head(1, 8, false), "a"); got != whole("AAAAAAAAa") {
		t.Error(got)
	}
}

// P7.2, Tick: n is cut to from 0 to MaxTicks.
func TestTickCut(t *testing.T) {
	x := New(1, api.MaxTicks)
	added(x, head(1, 8, true), "01234567")
	for _, n := range []int{0, -1, -5, -api.MaxTicks, math.MinInt} {
		if got := x.Tick(n); got != 0 {
			t.Error(n, got)
		}
	}
	// Had one of them turned the clock back, the last tick would come later.
	if x.Tick(api.MaxTicks-1) != 0 || x.Len() != 1 || x.Tick(0) != 0 || x.Tick(1) != 1 || x.Len() != 0 {
		t.Error("the last tick", x.Len())
	}
	for _, n := range []int{api.MaxTicks, api.MaxTicks + 1, 1 << 40, math.MaxInt} {
		added(x, head(1, 8, true), "01234567")
		x.Tick(1)
		if got := x.Tick(n); got != 1 {
			t.Error(n, got)
		}
		holds(t, x, 0, 0, "above MaxTicks")
	}
	for _, n := range []int{math.MinInt, -1, 0, 1, math.MaxInt} {
		if got := x.Tick(n); got != 0 {
			t.Error("without entries", n, got)
		}
	}
}

// P7.2, Tick: each entry goes by when it began, whatever came for it since; as many as go are told.
func TestTickEach(t *testing.T) {
	x := New(5, 3)
	added(x, head(1, 8, true), "01234567")
	added(x, head(2, 8, true), "01234567")
	x.Tick(1)
	added(x, head(3, 8, true), "01234567")
	x.Tick(1)
	added(x, head(4, 8, true), "0123456789abcdef")
	added(x, head(1, 16, true), "01234567") // makes it no younger
	holds(t, x, 4, 48, "ahead")
	if got := x.Tick(1); got != 2 {
		t.Error("two of them", got)
	}
	holds(t, x, 2, 24, "two of them")
	added(x, head(1, 0, true), "ABCDEFGH") // anew, from 0 ticks on, with nothing of what lay there
	holds(t, x, 3, 32, "anew")
	if got := x.Tick(1); got != 1 {
		t.Error("the third", got)
	}
	if got := added(x, head(1, 8, false), "I"); got != whole("ABCDEFGHI") {
		t.Error("anew", got)
	}
	holds(t, x, 1, 16, "the fourth")
	if got := x.Tick(2); got != 1 {
		t.Error("the fourth", got)
	}
	holds(t, x, 0, 0, "none")
}

// P7.2, Tick: what goes makes room.
func TestTickRoom(t *testing.T) {
	x := New(api.MaxFrags, 2)
	for n := range api.MaxFrags {
		added(x, head(n, 8, true), "01234567")
	}
	if x.Tick(1) != 0 || added(x, head(99, 8, true), "01234567") != refused(api.ErrFull) {
		t.Error("early")
	}
	if got := x.Tick(1); got != api.MaxFrags {
		t.Error(got)
	}
	if got := added(x, head(99, 8, true), "01234567"); got != open() {
		t.Error(got)
	}
	holds(t, x, 1, 8, "room")
}

// P7.2, Tick: a refused part neither makes an entry younger nor older.
func TestTickRefused(t *testing.T) {
	x := New(1, 3)
	added(x, head(1, 8, true), "01234567")
	x.Tick(2)
	added(x, head(1, 8, true), "0123")
	added(x, head(1, 0, false), "whole")
	added(x, head(2, 8, true), "01234567")
	holds(t, x, 1, 8, "refused")
	if got := x.Tick(1); got != 1 {
		t.Error(got)
	}
}

// P7.2, Flush: all go, with their bytes, their number in all and their age.
func TestFlush(t *testing.T) {
	x := New(3, 3)
	x.Flush()
	holds(t, x, 0, 0, "of none")
	for id := range 3 {
		added(x, head(id, 8, false), "tail")
	}
	x.Tick(2)
	x.Flush()
	holds(t, x, 0, 0, "of three")
	if got := added(x, head(1, 0, true), "01234567"); got != open() {
		t.Error("the number in all", got)
	}
	if got := x.Tick(1); got != 0 {
		t.Error("the age", got)
	}
	for id := range 3 {
		if got := added(x, head(id, 8, true), "01234567"); got != open() {
			t.Error("room", id, got)
		}
	}
	holds(t, x, 3, 32, "anew")
	if got := added(x, head(9, 8, true), "01234567"); got != refused(api.ErrFull) {
		t.Error("most", got)
	}
	if got := x.Tick(1); got != 0 {
		t.Error("ticks", got)
	}
	if got := x.Tick(1); got != 1 {
		t.Error("ticks", got)
	}
}

// piece is a part of a whole: from where on, up to where.
type piece struct {
	from, to int
}

// pieces cuts n bytes into parts of whole units, the last one as it comes.
func pieces(d *dice, n int) []piece {
	var l []piece
	for at := 0; at < n; {
		to := at + 8*(1+d.below(8))
		l = append(l, piece{at, min(to, n)})
		at = to
	}
	return l
}

// P7.3: whatever the cutting, whatever the order, doubled or not, the whole is the bytes, told once, with the part that was missing.
func TestAnyOrder(t *testing.T) {
	d := dice(7)
	for n := range 600 {
		all := textOf(9+d.below(api.MaxData-8), n)
		l := pieces(&d, len(all))
		if len(l) == 1 {
			l = []piece{{0, 8}, {8, len(all)}}
		}
		missing := map[piece]bool{}
		for _, p := range l {
			missing[p] = true
		}
		for range 3 { // doubled
			l = append(l, l[d.below(len(l))])
		}
		for k := range l {
			o := d.below(k + 1)
			l[k], l[o] = l[o], l[k]
		}
		x := New(1, 1)
		came := 0
		for k, p := range l {
			got := added(x, head(n, p.from, p.to < len(all)), all[p.from:p.to])
			if missing[p] {
				came += p.to - p.from
			}
			delete(missing, p)
			if len(missing) == 0 {
				if got != whole(all) {
					t.Fatal("not whole", n, k, got.e)
				}
				holds(t, x, 0, 0, "whole")
				break
			}
			if got != open() {
				t.Fatal("whole too soon", n, k, got.e)
			}
			holds(t, x, 1, came, "open")
		}
	}
}

// P7.3: every order of four parts that overlap, any of them twice too; the whole is the first byte at each place.
func TestEveryOrder(t *testing.T) {
	parts := []step{
		{i: head(1, 0, true), body: strings.Repeat("a", 16)},
		{i: head(1, 8, true), body: strings.Repeat("b", 16)},
		{i: head(1, 4, true), body: strings.Repeat("c", 8)},
		{i: head(1, 20, false), body: strings.Repeat("d", 8)},
	}
	for n := range 256 {
		order := []int{n & 3, n >> 2 & 3, n >> 4 & 3, n >> 6}
		x, m := New(1, 9), newModel(1, 9)
		for k, at := range order {
			p := parts[at]
			if got, want := added(x, p.i, p.body), m.add(p.i, p.body); got != want {
				t.Error(order, k, got, want)
			}
			holds(t, x, len(m.l), m.bytes(), "model")
		}
	}
}

// model is a table as the chapter tells it, in the plainest way: a list of entries, each with a list of places.
type model struct {
	most, ticks int
	l           []*modelEntry
}

type modelEntry struct {
	i     api.IP
	laid  map[int]string
	total int
	born  int
}

func newModel(most, ticks int) *model { return &model{most: most, ticks: ticks} }

// find is where an entry stands; -1: nowhere.
func (m *model) find(i api.IP) int {
	for k, d := range m.l {
		if d.i.Src == i.Src && d.i.Dst == i.Dst && d.i.Proto == i.Proto && d.i.ID == i.ID {
			return k
		}
	}
	return -1
}

// remove is that an entry goes.
func (m *model) remove(k int) {
	m.l = append(m.l[:k:k], m.l[k+1:]...)
}

func (m *model) add(i api.IP, body string) answer {
	if !i.More && i.Off <= 0 {
		return whole(body)
	}
	if body == "" || i.Off < 0 || i.More && len(body)%8 > 0 {
		return refused(api.ErrBytes)
	}
	k := m.find(i)
	if i.Off > 2000 || i.Off+len(body) > 2000 {
		if k >= 0 {
			m.remove(k)
		}
		return refused(api.ErrBig)
	}
	if k < 0 {
		if len(m.l) == m.most {
			return refused(api.ErrFull)
		}
		k = len(m.l)
		m.l = append(m.l, &modelEntry{i: i, laid: map[int]string{}, total: -1})
	}
	d := m.l[k]
	if !i.More && d.total < 0 {
		d.total = i.Off + len(body)
	}
	for b := range len(body) {
		if d.laid[i.Off+b] == "" {
			d.laid[i.Off+b] = body[b : b+1]
		}
	}
	s := ""
	for at := range 2000 {
		if d.total >= 0 && at >= d.total {
			delete(d.laid, at)
		}
		s += d.laid[at]
	}
	if d.total < 0 || len(s) < d.total {
		return open()
	}
	m.remove(k)
	return whole(s)
}

func (m *model) tick(n int) int {
	gone := 0
	for k := 0; k < len(m.l); {
		m.l[k].born -= min(max(n, 0), 100000)
		if -m.l[k].born >= m.ticks {
			m.remove(k)
			gone++
		} else {
			k++
		}
	}
	return gone
}

func (m *model) bytes() int {
	n := 0
	for _, d := range m.l {
		n += len(d.laid)
	}
	return n
}

// P7.1, P7.2 and P7.3: whatever comes, a table answers what the model answers.
func TestModel(t *testing.T) {
	d := dice(11)
	for round := range 150 {
		most, ticks := 1+d.below(4), 1+d.below(12)
		x, m := New(most, ticks), newModel(most, ticks)
		span := 4 + d.below(60)
		for k := range 120 {
			switch d.below(40) {
			case 0:
				x.Flush()
				m.l = nil
			case 1, 2, 3:
				n := d.below(6) - 1
				if got, want := x.Tick(n), m.tick(n); got != want {
					t.Fatal("tick", round, k, got, want)
				}
			default:
				i := head(d.below(5), d.below(span), d.below(4) > 0)
				if d.below(2) == 0 {
					i.Off -= i.Off % 8
				}
				n := 1 + d.below(span)
				if i.More && d.below(8) > 0 {
					n += 8 - n%8
				}
				switch d.below(60) {
				case 0:
					i.Off = 1990 + d.below(20)
				case 1:
					i.Off = -1 - d.below(9)
				case 2:
					n = 0
				case 3:
					n = 1990 + d.below(20)
				}
				body := textOf(n, round*1000+k)
				if got, want := added(x, i, body), m.add(i, body); got != want {
					t.Fatal("add", round, k, got, want)
				}
			}
			if x.Len() != len(m.l) || x.Bytes() != m.bytes() {
				t.Fatal(round, k, x.Len(), len(m.l), x.Bytes(), m.bytes())
			}
		}
	}
}

// R1 and P7.2: at whatever arguments, no call panics, no answer stands beside an error, and no more lies there than may.
func TestAnything(t *testing.T) {
	d := dice(13)
	odd := []int{math.MinInt, math.MinInt + 1, -2001, -8, -1, 0, 1, 7, 8, 1992, 1999, 2000, 2001, 65535, 99999, 100000, 100001, math.MaxInt - 2000, math.MaxInt - 8, math.MaxInt}
	any := func() int { return odd[d.below(len(odd))] }
	bodies := []string{"", "x", textOf(7, 1), textOf(8, 2), textOf(9, 3), textOf(1992, 4), textOf(2000, 5), textOf(2001, 6), textOf(2008, 7)}
	for range 200 {
		most := any()
		x := New(most, any())
		for range 200 {
			i := api.IP{ID: any(), Off: any(), More: d.below(2) == 0, Proto: any(), Src: uint32(any()), Dst: uint32(any())}
			if got := added(x, i, bodies[d.below(len(bodies))]); !got.done && got.whole != "" || got.done && got.e != api.OK {
				t.Fatal(i, got)
			}
			if d.below(30) == 0 {
				x.Tick(any())
			}
			if x.Len() > min(max(most, 1), api.MaxFrags) || x.Bytes() > x.Len()*api.MaxData || x.Bytes() < x.Len() {
				t.Fatal(x.Len(), x.Bytes())
			}
		}
		x.Flush()
		holds(t, x, 0, 0, "flushed")
	}
}
