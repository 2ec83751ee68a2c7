package channel

import (
	"math"
	"math/rand"
	"slices"
	"testing"

	"becket/api"
	"becket/claims"
)

// What the document tells: the last process, the strongest poison, the most room, and the two ends of the words.
const (
	lastProc  = 15
	lastLevel = 255
	lastRoom  = 8
	low       = -1 << 31
	high      = 1<<31 - 1
)

// ends are which ends of a channel are shared.
type ends struct{ out, in bool }

// kinds are the ends that each kind has shared: OneOne, AnyOne, OneAny, AnyAny.
var kinds = []ends{{false, false}, {true, false}, {false, true}, {true, true}}

// far are numbers that are none of anything that a channel has: the ends of int, and such as lose their height when they are cut to fewer bits.
var far = []int{math.MinInt, math.MinInt + 1, math.MinInt + 3, -1 << 62, -1 << 40, 1 << 40, 1<<40 + 1, 1<<40 + 2, 1<<40 + 3, 1 << 62, math.MaxInt - 1, math.MaxInt}

// Numbers that are no kinds, no rooms, no levels (and no strengths), no processes, no words, and no moves.
var (
	noKinds  = slices.Concat(far, []int{-256, -255, -4, -3, -2, -1, 4, 5, 6, 7, 8, 255, 256, 257, 258, 259, 65536, 65539, 1 << 32, 1<<32 + 3})
	noRooms  = slices.Concat(far, []int{-256, -248, -9, -8, -2, -1, 9, 10, 16, 255, 256, 257, 264, 65536, 65544, 1 << 32, 1<<32 + 8})
	noLevels = slices.Concat(far, []int{-65536, -257, -256, -255, -2, -1, 256, 257, 258, 511, 512, 65536, 65791, 1 << 32, 1<<32 + 255})
	noProcs  = slices.Concat(far, []int{-256, -251, -17, -16, -15, -5, -2, -1, 16, 17, 21, 31, 32, 255, 256, 261, 65536, 65541, 1 << 32, 1<<32 + 5})
	noWords  = slices.Concat(far, []int{-1 << 33, -1<<32 - 1, -1 << 32, -1<<32 + 7, low - 2, low - 1, high + 1, high + 2, 1<<32 - 1, 1 << 32, 1<<32 + 7})
	noMoves  = slices.Concat(far, []int{-256, -255, -3, -2, -1, 0, 4, 5, 6, 255, 256, 257, 258, 259, 65537, 1 << 32, 1<<32 + 1, 1<<32 + 2, 1<<32 + 3})
)

// moves are all moves, and a few numbers that are none.
var moves = []int{-1, 0, 1, 2, 3, 4}

// made is a channel of that kind, with that room, in which nothing is, and at which nobody waits: its receivers' end bears 20, that of its senders 10.
func made(kind, room int) Chan {
	return Chan{
		Conf: api.Chan{Kind: kind, Room: room, In: 20, Out: 10},
		Out:  claims.Line{Shared: kinds[kind].out},
		In:   claims.Line{Shared: kinds[kind].in},
	}
}

// level is a channel with another level.
func level(c Chan, n int) Chan {
	c.Level = n
	return c
}

// bears is a channel whose ends bear something else: the senders' first.
func bears(c Chan, out, in int) Chan {
	c.Conf.Out, c.Conf.In = out, in
	return c
}

// holds is a channel with other values.
func holds(c Chan, values ...int) Chan {
	c.Values = values
	return c
}

// out is a channel with these senders, each of which sends a hundred more than its number.
func out(c Chan, who ...int) Chan {
	c.Out.Who, c.Vals = who, nil
	for _, p := range who {
		c.Vals = append(c.Vals, p+100)
	}
	return c
}

// in is a channel with these receivers.
func in(c Chan, who ...int) Chan {
	c.In.Who = who
	return c
}

// with is a list with one number more, at a place.
func with(l []int, at, n int) []int { return slices.Insert(slices.Clone(l), at, n) }

// without is a list without what is at a place.
func without(l []int, at int) []int { return slices.Delete(slices.Clone(l), at, at+1) }

// copied is a channel in memory of its own.
func copied(c Chan) Chan {
	c.Values, c.Vals = slices.Clone(c.Values), slices.Clone(c.Vals)
	c.Out.Who, c.In.Who = slices.Clone(c.Out.Who), slices.Clone(c.In.Who)
	return c
}

// same tells whether two channels are the same: a list that is nil is an empty one.
func same(a, b Chan) bool {
	return a.Conf == b.Conf && a.Level == b.Level && slices.Equal(a.Values, b.Values) && slices.Equal(a.Vals, b.Vals) &&
		a.Out.Shared == b.Out.Shared && a.In.Shared == b.In.Shared && slices.Equal(a.Out.Who, b.Out.Who) && slices.Equal(a.In.Who, b.In.Who)
}

// kept is a channel whose four lists lie one behind the other in one memory, with more around them, and what fails, unless all of that is as it was.
func kept(t *testing.T, c Chan) (Chan, func(what string)) {
	t.Helper()
	memory := []int{-71, -72}
	lists := []*[]int{&c.Values, &c.Out.Who, &c.Vals, &c.In.Who}
	var from []int
	for _, l := range lists {
		from = append(from, len(memory))
		memory = append(append(memory, *l...), -73, -74, -75)
	}
	for i, l := range lists {
		*l = memory[from[i] : from[i]+len(*l)]
	}
	before := slices.Clone(memory)
	return c, func(what string) {
		t.Helper()
		if !slices.Equal(memory, before) {
			t.Errorf("%s: it has written to %v: %v", what, before, memory)
		}
	}
}

// checked is a second reading of what Check answers.
func checked(c api.Chan) api.Errno {
	if !slices.Contains([]int{0, 1, 2, 3}, c.Kind) {
		return api.ErrKind
	}
	for _, one := range [][2]int{{c.Room, lastRoom}, {c.In, lastLevel}, {c.Out, lastLevel}} {
		if one[0] < 0 || one[0] > one[1] {
			return api.ErrRange
		}
	}
	return api.OK
}

// isWord tells whether a number is a word.
func isWord(n int) bool { return int(int32(n)) == n }

// lined tells whether a line may be, at an end that is shared or not.
func lined(l claims.Line, shared bool) bool {
	var times [lastProc + 1]int
	for _, p := range l.Who {
		if p < 0 || p > lastProc {
			return false
		}
		times[p]++
	}
	return slices.Max(times[:]) < 2 && l.Shared == shared && (shared || len(l.Who) < 2)
}

// allowed is a second reading of what Fine answers.
func allowed(c Chan) bool {
	if checked(c.Conf) != api.OK || c.Level < 0 || c.Level > lastLevel {
		return false
	}
	for _, n := range slices.Concat(c.Values, c.Vals) {
		if !isWord(n) {
			return false
		}
	}
	if len(c.Values) > c.Conf.Room || len(c.Vals) != len(c.Out.Who) {
		return false
	}
	return lined(c.Out, kinds[c.Conf.Kind].out) && lined(c.In, kinds[c.Conf.Kind].in)
}

// joined tells with which error one is not let into a line that may be.
func joined(l claims.Line, p int) api.Errno {
	if p < 0 || p > lastProc {
		return api.ErrRange
	}
	if slices.Contains(l.Who, p) {
		return api.ErrThere
	}
	if len(l.Who) == 1 && !l.Shared {
		return api.ErrBusy
	}
	return api.OK
}

// sent is a second reading of what Send answers.
func sent(c Chan, p, v int) (Chan, api.Errno) {
	if !allowed(c) {
		return c, api.ErrArg
	}
	if !isWord(v) {
		return c, api.ErrRange
	}
	if e := joined(c.Out, p); e != api.OK {
		return c, e
	}
	c = copied(c)
	c.Out.Who, c.Vals = append(c.Out.Who, p), append(c.Vals, v)
	return c, api.OK
}

// asked is a second reading of what Recv answers.
func asked(c Chan, p int) (Chan, api.Errno) {
	if !allowed(c) {
		return c, api.ErrArg
	}
	if e := joined(c.In, p); e != api.OK {
		return c, e
	}
	c = copied(c)
	c.In.Who = append(c.In.Who, p)
	return c, api.OK
}

// left is a second reading of what Leave answers.
func left(c Chan, p int) Chan {
	if !allowed(c) {
		return c
	}
	rest := copied(c)
	rest.Out.Who, rest.Vals, rest.In.Who = nil, nil, nil
	for i, one := range c.Out.Who {
		if one != p {
			rest.Out.Who, rest.Vals = append(rest.Out.Who, one), append(rest.Vals, c.Vals[i])
		}
	}
	for _, one := range c.In.Who {
		if one != p {
			rest.In.Who = append(rest.In.Who, one)
		}
	}
	return rest
}

// raised is a second reading of what Poison answers.
func raised(c Chan, by int) (Chan, api.Errno) {
	if !allowed(c) {
		return c, api.ErrArg
	}
	if by < 1 || by > lastLevel {
		return c, api.ErrRange
	}
	return level(c, max(c.Level, by)), api.OK
}

// struck is a second reading of what Hit answers.
func struck(c Chan, p int) bool {
	if !allowed(c) {
		return false
	}
	return slices.Contains(c.Out.Who, p) && c.Level > c.Conf.Out || slices.Contains(c.In.Who, p) && c.Level > c.Conf.In
}

// open is a second reading of what What answers.
func open(c Chan) []int {
	if !allowed(c) {
		return nil
	}
	sender := len(c.Out.Who) != 0 && c.Level <= c.Conf.Out
	receiver := len(c.In.Who) != 0 && c.Level <= c.Conf.In
	if c.Conf.Room == 0 {
		if sender && receiver {
			return []int{1}
		}
		return nil
	}
	var l []int
	if sender && len(c.Values) != c.Conf.Room {
		l = append(l, 2)
	}
	if receiver && len(c.Values) != 0 {
		l = append(l, 3)
	}
	return l
}

// moved is a second reading of what Do answers.
func moved(c Chan, move int) (Chan, Move, api.Errno) {
	if !allowed(c) {
		return c, Move{}, api.ErrArg
	}
	if !slices.Contains(open(c), move) {
		return c, Move{}, api.ErrState
	}
	m, to := Move{From: -1, To: -1}, copied(c)
	if move != 3 {
		m.From, to.Values = c.Out.Who[0], append(to.Values, c.Vals[0])
		to = left(to, -1)
	}
	if move == 3 || move == 1 {
		m.To = c.In.Who[0]
	}
	m.Val = to.Values[0]
	if move == 2 {
		m.Val = c.Vals[0]
	} else {
		to.Values = to.Values[1:]
	}
	return left(left(to, m.From), m.To), m, api.OK
}

// checks fails, unless Check answers so, and New too.
func checks(t *testing.T, c api.Chan, want api.Errno) {
	t.Helper()
	if got := Check(c); got != want {
		t.Errorf("Check(%v): %d; want %d", c, got, want)
	}
	fresh := Chan{}
	if want == api.OK {
		fresh = Chan{Conf: c, Out: claims.Line{Shared: kinds[c.Kind].out}, In: claims.Line{Shared: kinds[c.Kind].in}}
	}
	if got, e := New(c); !same(got, fresh) || e != want {
		t.Errorf("New(%v): %v, %d; want %v, %d", c, got, e, fresh, want)
	}
}

// fines fails, unless Fine answers so, and leaves the lists as they were.
func fines(t *testing.T, c Chan, want bool) {
	t.Helper()
	own, check := kept(t, c)
	if got := Fine(own); got != want {
		t.Errorf("Fine(%v): %v; want %v", c, got, want)
	}
	check("Fine")
}

// sends fails, unless Send answers so, and leaves the lists as they were.
func sends(t *testing.T, c Chan, p, v int, want Chan, err api.Errno) {
	t.Helper()
	own, check := kept(t, c)
	if got, e := Send(own, p, v); !same(got, want) || e != err {
		t.Errorf("Send(%v, %d, %d): %v, %d; want %v, %d", c, p, v, got, e, want, err)
	}
	check("Send")
}

// recvs fails, unless Recv answers so, and leaves the lists as they were.
func recvs(t *testing.T, c Chan, p int, want Chan, err api.Errno) {
	t.Helper()
	own, check := kept(t, c)
	if got, e := Recv(own, p); !same(got, want) || e != err {
		t.Errorf("Recv(%v, %d): %v, %d; want %v, %d", c, p, got, e, want, err)
	}
	check("Recv")
}

// leaves fails, unless Leave answers so, and leaves the lists as they were.
func leaves(t *testing.T, c Chan, p int, want Chan) {
	t.Helper()
	own, check := kept(t, c)
	if got := Leave(own, p); !same(got, want) {
		t.Errorf("Leave(%v, %d): %v; want %v", c, p, got, want)
	}
	check("Leave")
}

// poisons fails, unless Poison answers so, and leaves the lists as they were.
func poisons(t *testing.T, c Chan, by int, want Chan, err api.Errno) {
	t.Helper()
	own, check := kept(t, c)
	if got, e := Poison(own, by); !same(got, want) || e != err {
		t.Errorf("Poison(%v, %d): %v, %d; want %v, %d", c, by, got, e, want, err)
	}
	check("Poison")
}

// hits fails, unless Hit answers so, and leaves the lists as they were.
func hits(t *testing.T, c Chan, p int, want bool) {
	t.Helper()
	own, check := kept(t, c)
	if got := Hit(own, p); got != want {
		t.Errorf("Hit(%v, %d): %v; want %v", c, p, got, want)
	}
	check("Hit")
}

// whats fails, unless What answers so, and leaves the lists as they were.
func whats(t *testing.T, c Chan, want ...int) {
	t.Helper()
	own, check := kept(t, c)
	got := What(own)
	if !slices.Equal(got, want) {
		t.Errorf("What(%v): %v; want %v", c, got, want)
	}
	for i := range got {
		got[i] = -9
	}
	_ = append(got, -9)
	check("What")
	if again := What(own); !slices.Equal(again, want) {
		t.Errorf("What(%v) behind another caller's: %v; want %v", c, again, want)
	}
}

// does fails, unless Do answers so, and leaves the lists as they were.
func does(t *testing.T, c Chan, move int, want Chan, m Move, err api.Errno) {
	t.Helper()
	own, check := kept(t, c)
	if got, it, e := Do(own, move); !same(got, want) || it != m || e != err {
		t.Errorf("Do(%v, %d): %v, %v, %d; want %v, %v, %d", c, move, got, it, e, want, m, err)
	}
	check("Do")
}

// only fails, unless What tells these moves, and Do refuses all others, and numbers that are none.
func only(t *testing.T, c Chan, want ...int) {
	t.Helper()
	whats(t, c, want...)
	for _, move := range slices.Concat(moves, noMoves) {
		if !slices.Contains(want, move) {
			does(t, c, move, c, Move{}, api.ErrState)
		}
	}
	for _, move := range want {
		if _, _, e := Do(copied(c), move); e != api.OK {
			t.Errorf("Do(%v, %d): %d", c, move, e)
		}
	}
}

// every holds all calls of a channel, of a process's number, and of a number that is taken as a word and as a strength, against the second readings.
func every(t *testing.T, c Chan, p, n int) {
	t.Helper()
	checks(t, c.Conf, checked(c.Conf))
	fines(t, c, allowed(c))
	to, e := sent(c, p, n)
	sends(t, c, p, n, to, e)
	to, e = asked(c, p)
	recvs(t, c, p, to, e)
	leaves(t, c, p, left(c, p))
	to, e = raised(c, n)
	poisons(t, c, n, to, e)
	hits(t, c, p, struck(c, p))
	whats(t, c, open(c)...)
	for _, move := range moves {
		to, m, e := moved(c, move)
		does(t, c, move, to, m, e)
	}
}

// refused fails, unless the channel may not be, and each call tells so, whatever else it is handed.
func refused(t *testing.T, c Chan) {
	t.Helper()
	fines(t, c, false)
	whats(t, c)
	for _, p := range []int{math.MinInt, -1, 0, 3, 5, 9, 15, 16, math.MaxInt} {
		for _, v := range []int{7, low - 1, high + 1} {
			sends(t, c, p, v, c, api.ErrArg)
		}
		recvs(t, c, p, c, api.ErrArg)
		leaves(t, c, p, c)
		hits(t, c, p, false)
	}
	for _, by := range []int{math.MinInt, -1, 0, 1, 30, 255, 256, math.MaxInt} {
		poisons(t, c, by, c, api.ErrArg)
	}
	for _, move := range moves {
		does(t, c, move, c, Move{}, api.ErrArg)
	}
}

// some are channels that may be, of each kind, empty, half full and full, with nobody at their ends, one, and, where an end is shared, many.
func some() []Chan {
	var l []Chan
	for kind, shared := range kinds {
		for _, room := range []int{0, 1, 2, 8} {
			for _, values := range slices.Compact([]int{0, room / 2, room}) {
				c := holds(made(kind, room), []int{11, 12, 13, 14, 15, 16, 17, 18}[:values]...)
				one := out(in(c, 5), 3)
				l = append(l, c, out(c, 3), in(c, 5), one)
				if shared.out {
					l = append(l, out(c, 9, 3, 0), out(one, 3, 5, 15))
				}
				if shared.in {
					l = append(l, in(c, 5, 0, 9), in(one, 5, 15, 3))
				}
				if shared.out && shared.in {
					l = append(l, in(out(c, 5, 3, 9, 4), 9, 4, 5))
				}
			}
		}
	}
	return l
}

// spoilt are channels that may not be: of one that may be, each with one thing that spoils it.
func spoilt(c Chan) []Chan {
	var l []Chan
	add := func(change func(c *Chan)) {
		one := copied(c)
		change(&one)
		l = append(l, one)
	}
	for _, n := range []int{math.MinInt, -1, 4, 256, math.MaxInt} {
		add(func(c *Chan) { c.Conf.Kind = n })
	}
	for _, n := range []int{math.MinInt, -1, 9, 256, math.MaxInt} {
		add(func(c *Chan) { c.Conf.Room = n })
	}
	for _, n := range []int{math.MinInt, -1, 256, math.MaxInt} {
		add(func(c *Chan) { c.Conf.In = n })
		add(func(c *Chan) { c.Conf.Out = n })
		add(func(c *Chan) { c.Level = n })
	}
	add(func(c *Chan) { c.Out.Shared = !c.Out.Shared })
	add(func(c *Chan) { c.In.Shared = !c.In.Shared })
	add(func(c *Chan) { c.Vals = append(c.Vals, 7) })
	add(func(c *Chan) { c.Values = append(c.Values, make([]int, c.Conf.Room+1-len(c.Values))...) })
	for at := range c.Values {
		for _, n := range []int{math.MinInt, low - 1, high + 1, math.MaxInt} {
			add(func(c *Chan) { c.Values[at] = n })
		}
	}
	if len(c.Values) > 0 {
		add(func(c *Chan) { c.Conf.Room = len(c.Values) - 1 })
	}
	return slices.Concat(l, spoiltLines(c))
}

// spoiltLines are channels that may not be because of who waits at their ends, or with what.
func spoiltLines(c Chan) []Chan {
	var l []Chan
	for at := range len(c.Out.Who) + 1 {
		for _, p := range slices.Concat([]int{math.MinInt, -1, 16, math.MaxInt}, c.Out.Who) {
			one := c
			one.Out.Who, one.Vals = with(c.Out.Who, at, p), with(c.Vals, at, 7)
			l = append(l, one)
		}
	}
	for at := range len(c.In.Who) + 1 {
		for _, p := range slices.Concat([]int{math.MinInt, -1, 16, math.MaxInt}, c.In.Who) {
			one := c
			one.In.Who = with(c.In.Who, at, p)
			l = append(l, one)
		}
	}
	for at := range c.Vals {
		one := c
		one.Vals = without(c.Vals, at)
		l = append(l, one)
		for _, v := range []int{math.MinInt, low - 1, high + 1, math.MaxInt} {
			one.Vals = with(without(c.Vals, at), at, v)
			l = append(l, one)
		}
	}
	for _, p := range []int{0, 15} {
		if len(c.Out.Who) == 1 && !c.Out.Shared {
			l = append(l, out(c, c.Out.Who[0], p), out(c, p, c.Out.Who[0]))
		}
		if len(c.In.Who) == 1 && !c.In.Shared {
			l = append(l, in(c, c.In.Who[0], p), in(c, p, c.In.Who[0]))
		}
	}
	return l
}

// send is the channel behind one who may send.
func send(t *testing.T, c Chan, p, v int) Chan {
	t.Helper()
	to, e := Send(c, p, v)
	if e != api.OK {
		t.Fatalf("Send(%v, %d, %d): %d", c, p, v, e)
	}
	return to
}

// recv is the channel behind one who may receive.
func recv(t *testing.T, c Chan, p int) Chan {
	t.Helper()
	to, e := Recv(c, p)
	if e != api.OK {
		t.Fatalf("Recv(%v, %d): %d", c, p, e)
	}
	return to
}

// do is the channel behind a move that may happen, and what happened.
func do(t *testing.T, c Chan, move int) (Chan, Move) {
	t.Helper()
	to, m, e := Do(c, move)
	if e != api.OK {
		t.Fatalf("Do(%v, %d): %d", c, move, e)
	}
	return to, m
}

// fresh is a new channel.
func fresh(t *testing.T, c api.Chan) Chan {
	t.Helper()
	to, e := New(c)
	if e != api.OK {
		t.Fatalf("New(%v): %d", c, e)
	}
	return to
}

// The chapter's example, in either order of coming.
func TestExample(t *testing.T) {
	c := fresh(t, api.Chan{})
	for _, both := range []Chan{recv(t, send(t, c, 3, 7), 5), send(t, recv(t, c, 5), 3, 7)} {
		does(t, both, Pass, c, Move{From: 3, To: 5, Val: 7}, api.OK)
	}
}

// The numbers of the moves are those that the document tells.
func TestMoves(t *testing.T) {
	if got := [3]int{Pass, Put, Take}; got != [3]int{1, 2, 3} {
		t.Errorf("Pass, Put, Take: %v", got)
	}
}

// P18.1: Check and New: each kind, and numbers that are none; Room, In and Out at their ends, and just beyond.
func TestCheck(t *testing.T) {
	for _, c := range []struct {
		c    api.Chan
		want api.Errno
	}{
		{api.Chan{}, api.OK}, {api.Chan{Kind: 1}, api.OK}, {api.Chan{Kind: 2}, api.OK}, {api.Chan{Kind: 3}, api.OK}, {api.Chan{Kind: -1}, api.ErrKind}, {api.Chan{Kind: 4}, api.ErrKind},
		{api.Chan{Room: -1}, api.ErrRange}, {api.Chan{Room: 1}, api.OK}, {api.Chan{Room: 8}, api.OK}, {api.Chan{Room: 9}, api.ErrRange},
		{api.Chan{In: -1}, api.ErrRange}, {api.Chan{In: 1}, api.OK}, {api.Chan{In: 255}, api.OK}, {api.Chan{In: 256}, api.ErrRange},
		{api.Chan{Out: -1}, api.ErrRange}, {api.Chan{Out: 1}, api.OK}, {api.Chan{Out: 255}, api.OK}, {api.Chan{Out: 256}, api.ErrRange},
		{api.Chan{Kind: 3, Room: 8, In: 255, Out: 255}, api.OK}, {api.Chan{Kind: 2, Room: 3, In: 4, Out: 5}, api.OK},
		{api.Chan{Kind: -1, Room: -1}, api.ErrKind}, {api.Chan{Kind: 4, Room: 9, In: 256, Out: -1}, api.ErrKind}, {api.Chan{Kind: 4, In: -1}, api.ErrKind}, {api.Chan{Kind: -1, Out: 256}, api.ErrKind},
		{api.Chan{Kind: 3, Room: 9, In: 256, Out: -1}, api.ErrRange},
	} {
		checks(t, c.c, c.want)
	}
}

// P18.1: Check and New: all kinds with all rooms, and all levels at each end.
func TestCheckAll(t *testing.T) {
	for kind := range kinds {
		for room := range lastRoom + 1 {
			for n := range lastLevel + 1 {
				checks(t, api.Chan{Kind: kind, Room: room, In: n, Out: lastLevel - n}, api.OK)
			}
		}
	}
}

// P18.1: Check and New of numbers that may not be: in each field, alone, and behind a kind that is none.
func TestCheckWrong(t *testing.T) {
	for _, n := range noKinds {
		checks(t, api.Chan{Kind: n}, api.ErrKind)
		checks(t, api.Chan{Kind: n, Room: 8, In: 255, Out: 255}, api.ErrKind)
		checks(t, api.Chan{Kind: n, Room: n, In: 256, Out: -1}, api.ErrKind)
	}
	for kind := range kinds {
		for _, n := range noRooms {
			checks(t, api.Chan{Kind: kind, Room: n}, api.ErrRange)
			checks(t, api.Chan{Kind: kind, Room: n, In: 256, Out: 256}, api.ErrRange)
		}
		for _, n := range noLevels {
			checks(t, api.Chan{Kind: kind, In: n}, api.ErrRange)
			checks(t, api.Chan{Kind: kind, Room: 8, Out: n}, api.ErrRange)
			checks(t, api.Chan{Kind: kind, Room: 8, In: n, Out: n}, api.ErrRange)
		}
	}
}

// P18.1: what New gives: it may be, nothing is in it, nobody waits at it, and nothing may happen.
func TestNew(t *testing.T) {
	for kind := range kinds {
		for room := range lastRoom + 1 {
			c := fresh(t, api.Chan{Kind: kind, Room: room, In: 20, Out: 10})
			if want := made(kind, room); !same(c, want) {
				t.Errorf("%v; want %v", c, want)
			}
			fines(t, c, true)
			only(t, c)
			for p := range lastProc + 1 {
				hits(t, c, p, false)
				hits(t, level(c, 255), p, false)
				leaves(t, c, p, c)
			}
		}
	}
}

// P18.1: Fine: the level at its ends, and just beyond.
func TestFineLevel(t *testing.T) {
	for _, c := range some() {
		fines(t, c, true)
		for n := range lastLevel + 1 {
			fines(t, level(c, n), true)
		}
		for _, n := range noLevels {
			fines(t, level(c, n), false)
		}
	}
}

// P18.1: Fine: from none to more values than there is room.
func TestFineRoom(t *testing.T) {
	for kind := range kinds {
		for room := range lastRoom + 1 {
			for _, many := range []int{0, 1, 2, 3, 4, 5, 6, 7, 8, 9, 10, 16, 256, 264, 65536} {
				c := holds(made(kind, room), make([]int, many)...)
				fines(t, c, many <= room)
				fines(t, out(in(c, 5), 3), many <= room)
			}
		}
	}
}

// P18.1: Fine: as many words as there are senders, one more and one less, and none or one without a sender.
func TestFineVals(t *testing.T) {
	for _, c := range some() {
		for many := range 7 {
			one := c
			one.Vals = make([]int, many)
			fines(t, one, many == len(c.Out.Who))
		}
	}
	c := out(made(api.OneOne, 1), 3)
	c.Vals = nil
	fines(t, c, false)
	c.Out.Who, c.Vals = nil, []int{7}
	fines(t, c, false)
}

// P18.1: Fine: lines that are shared, and not, at each end, with none, one and two that wait: of each kind it is to be as the kind says.
func TestFineShared(t *testing.T) {
	for kind, shared := range kinds {
		for _, is := range []ends{{false, false}, {true, false}, {false, true}, {true, true}} {
			for senders := range 3 {
				for receivers := range 3 {
					c := out(in(made(kind, 1), []int{5, 9}[:receivers]...), []int{3, 4}[:senders]...)
					c.Out.Shared, c.In.Shared = is.out, is.in
					fines(t, c, is == shared && (shared.out || senders < 2) && (shared.in || receivers < 2))
				}
			}
		}
	}
}

// P18.1: Fine: the words at their two ends, and numbers that are none, among the values, and among those that are sent: at each place.
func TestFineWords(t *testing.T) {
	full := out(holds(made(api.AnyAny, 4), 1, 2, 3), 4, 5, 6)
	try := func(n int, want bool) {
		t.Helper()
		for at := range full.Values {
			c := full
			c.Values = with(without(full.Values, at), at, n)
			fines(t, c, want)
			c = full
			c.Vals = with(without(full.Vals, at), at, n)
			fines(t, c, want)
		}
		c := out(holds(made(api.OneOne, 1), n), 3)
		fines(t, c, want)
		c.Values, c.Vals = nil, []int{n}
		fines(t, c, want)
	}
	for _, n := range []int{low, low + 1, -1, 0, 1, high - 1, high} {
		try(n, true)
	}
	for _, n := range noWords {
		try(n, false)
	}
}

// P18.1: Fine: lines of all that there are, of such as are no processes, and of one who waits twice at one end; who waits once at each is fine.
func TestFineLines(t *testing.T) {
	all := []int{0, 1, 2, 3, 4, 5, 6, 7, 8, 9, 10, 11, 12, 13, 14, 15}
	c := made(api.AnyAny, 1)
	fines(t, in(out(c, all...), all...), true)
	for _, p := range all {
		for _, kind := range []int{0, 1, 2, 3} {
			fines(t, out(made(kind, 1), p), true)
			fines(t, in(made(kind, 1), p), true)
			fines(t, in(out(made(kind, 1), p), p), true)
		}
		fines(t, out(c, p, 3, p), false)
		fines(t, in(c, p, 3, p), false)
		fines(t, out(c, append(all, p)...), false)
		fines(t, in(c, append(all, p)...), false)
	}
	for _, no := range noProcs {
		for kind := range kinds {
			one := made(kind, 1)
			one.Out.Who, one.Vals = []int{no}, []int{7}
			fines(t, one, false)
			fines(t, in(made(kind, 1), no), false)
		}
		c := made(api.AnyAny, 1)
		c.Out.Who, c.Vals = []int{3, no}, []int{7, 8}
		fines(t, c, false)
		fines(t, in(made(api.AnyAny, 1), 3, no), false)
	}
}

// P18.1, P18.2, P18.3, P18.4: channels that may not be, of each kind: each call tells so, ahead of all else that is wrong.
func TestSpoilt(t *testing.T) {
	for _, c := range some() {
		fines(t, c, true)
		for _, one := range spoilt(c) {
			refused(t, one)
		}
	}
}

// P18.2: Send: onto none, behind others, and by one who waits at the other end.
func TestSend(t *testing.T) {
	for kind := range kinds {
		for _, c := range []Chan{made(kind, 0), made(kind, 1), holds(made(kind, 8), 1, 2, 3), in(made(kind, 2), 5), holds(level(made(kind, 1), 255), 4)} {
			for p := range lastProc + 1 {
				for _, v := range []int{low, low + 1, -1, 0, 7, high - 1, high} {
					want := c
					want.Out.Who, want.Vals = []int{p}, []int{v}
					sends(t, c, p, v, want, api.OK)
				}
			}
		}
	}
	c := out(in(made(api.AnyAny, 1), 5, 3), 9, 3, 0)
	want := c
	want.Out.Who, want.Vals = []int{9, 3, 0, 5}, []int{109, 103, 100, 7}
	sends(t, c, 5, 7, want, api.OK)
	c = out(made(api.AnyOne, 0), 4)
	want.Conf, want.In, want.Out.Who, want.Vals = c.Conf, c.In, []int{4, 1}, []int{104, 104}
	sends(t, c, 1, 104, want, api.OK)
}

// P18.2: Send with an error: what is no word, what is no process, one who waits already, a second one where the end is not shared; and more than one of them at once.
func TestSendErrors(t *testing.T) {
	for _, c := range some() {
		for _, v := range noWords {
			for _, p := range []int{-1, 1, 3, 16} {
				sends(t, c, p, v, c, api.ErrRange)
			}
		}
		for _, p := range noProcs {
			sends(t, c, p, 7, c, api.ErrRange)
		}
		for _, p := range c.Out.Who {
			sends(t, c, p, 7, c, api.ErrThere)
			sends(t, c, p, high+1, c, api.ErrRange)
		}
		if len(c.Out.Who) == 1 && !c.Out.Shared {
			for p := range lastProc + 1 {
				if p != c.Out.Who[0] {
					sends(t, c, p, 7, c, api.ErrBusy)
					sends(t, c, p, low-1, c, api.ErrRange)
				}
			}
		}
	}
}

// P18.2: Recv: onto none, behind others, and by one who waits at the other end.
func TestRecv(t *testing.T) {
	for kind := range kinds {
		for _, c := range []Chan{made(kind, 0), made(kind, 1), holds(made(kind, 8), 1, 2, 3), out(made(kind, 2), 3), holds(level(made(kind, 1), 255), 4)} {
			for p := range lastProc + 1 {
				recvs(t, c, p, in(c, p), api.OK)
			}
		}
	}
	c := out(in(made(api.AnyAny, 1), 5, 3), 9, 8, 0)
	recvs(t, c, 8, in(c, 5, 3, 8), api.OK)
	c = in(made(api.OneAny, 0), 4)
	recvs(t, c, 1, in(c, 4, 1), api.OK)
}

// P18.2: Recv with an error: what is no process, one who waits already, and a second one where the end is not shared.
func TestRecvErrors(t *testing.T) {
	for _, c := range some() {
		for _, p := range noProcs {
			recvs(t, c, p, c, api.ErrRange)
		}
		for _, p := range c.In.Who {
			recvs(t, c, p, c, api.ErrThere)
		}
		if len(c.In.Who) == 1 && !c.In.Shared {
			for p := range lastProc + 1 {
				if p != c.In.Who[0] {
					recvs(t, c, p, c, api.ErrBusy)
				}
			}
		}
	}
}

// P18.2: of each kind: a second one is let in just where the end is shared, whether or not the other end is.
func TestSecond(t *testing.T) {
	for kind, shared := range kinds {
		for _, room := range []int{0, 1, 8} {
			c := in(out(made(kind, room), 3), 5)
			want := c
			want.Out.Who, want.Vals = []int{3, 9}, []int{103, 7}
			if shared.out {
				sends(t, c, 9, 7, want, api.OK)
			} else {
				sends(t, c, 9, 7, c, api.ErrBusy)
			}
			if shared.in {
				recvs(t, c, 9, in(c, 5, 9), api.OK)
			} else {
				recvs(t, c, 9, c, api.ErrBusy)
			}
		}
	}
}

// P18.2: Leave: who waits at neither end, at one, and at both: at the first place, in the middle and at the last one; a sender's word goes with it.
func TestLeave(t *testing.T) {
	c := holds(in(out(made(api.AnyAny, 3), 4, 0, 7, 9), 7, 4, 1, 9), 11, 12)
	for _, w := range []struct {
		p             int
		out, vals, in []int
	}{
		{4, []int{0, 7, 9}, []int{100, 107, 109}, []int{7, 1, 9}},
		{0, []int{4, 7, 9}, []int{104, 107, 109}, []int{7, 4, 1, 9}},
		{7, []int{4, 0, 9}, []int{104, 100, 109}, []int{4, 1, 9}},
		{9, []int{4, 0, 7}, []int{104, 100, 107}, []int{7, 4, 1}},
		{1, []int{4, 0, 7, 9}, []int{104, 100, 107, 109}, []int{7, 4, 9}},
		{2, []int{4, 0, 7, 9}, []int{104, 100, 107, 109}, []int{7, 4, 1, 9}},
	} {
		want := in(c, w.in...)
		want.Out.Who, want.Vals = w.out, w.vals
		leaves(t, c, w.p, want)
		leaves(t, level(c, 255), w.p, level(want, 255))
		if w.p != 2 {
			leaves(t, want, w.p, want)
		}
	}
	for kind := range kinds {
		none := made(kind, 1)
		leaves(t, out(none, 3), 3, none)
		leaves(t, in(none, 3), 3, none)
		leaves(t, in(out(none, 3), 3), 3, none)
		leaves(t, in(out(none, 3), 5), 3, in(none, 5))
		leaves(t, in(out(none, 3), 5), 5, out(none, 3))
	}
}

// P18.2: Leave of what is no process: all stays as it was.
func TestLeaveWrong(t *testing.T) {
	for _, c := range some() {
		for _, p := range noProcs {
			leaves(t, c, p, c)
		}
	}
}

// P18.2: Leave takes the word at the sender's own place, even where others send the same one.
func TestLeaveVals(t *testing.T) {
	c := out(made(api.AnyOne, 0), 1, 2, 3)
	for _, vals := range [][]int{{7, 7, 7}, {7, 8, 7}, {8, 7, 7}, {2, 3, 1}, {3, 1, 2}} {
		for at, p := range []int{1, 2, 3} {
			c.Vals = vals
			want := c
			want.Out.Who, want.Vals = without(c.Out.Who, at), without(vals, at)
			leaves(t, c, p, want)
		}
	}
}

// P18.2: Poison: strengths at their ends, and just beyond; weaker than the level, as strong, and stronger.
func TestPoison(t *testing.T) {
	for _, c := range []struct {
		from, by, want int
		err            api.Errno
	}{
		{0, -1, 0, api.ErrRange}, {0, 0, 0, api.ErrRange}, {0, 1, 1, api.OK}, {0, 255, 255, api.OK}, {0, 256, 0, api.ErrRange},
		{9, 0, 9, api.ErrRange}, {9, 1, 9, api.OK}, {9, 8, 9, api.OK}, {9, 9, 9, api.OK}, {9, 10, 10, api.OK}, {9, 255, 255, api.OK}, {9, 256, 9, api.ErrRange},
		{255, 0, 255, api.ErrRange}, {255, 1, 255, api.OK}, {255, 254, 255, api.OK}, {255, 255, 255, api.OK}, {255, 256, 255, api.ErrRange},
	} {
		for _, one := range some() {
			poisons(t, level(one, c.from), c.by, level(one, c.want), c.err)
		}
	}
	for _, by := range noLevels {
		poisons(t, level(made(api.OneOne, 1), 9), by, level(made(api.OneOne, 1), 9), api.ErrRange)
	}
}

// P18.2: Poison: all strengths, of all levels; who waits, and what is in the channel, stays.
func TestPoisonAll(t *testing.T) {
	c := holds(in(out(made(api.AnyAny, 3), 4, 0), 7, 4), 11, 12)
	for from := range lastLevel + 1 {
		for by := 1; by <= lastLevel; by++ {
			if got, e := Poison(level(c, from), by); !same(got, level(c, max(from, by))) || e != api.OK {
				t.Fatalf("Poison(%v, %d): %v, %d", level(c, from), by, got, e)
			}
		}
	}
}

// P18.3: Hit: ends that bear less than the level, as much, and more; of who waits at neither, at one, and at both.
func TestHit(t *testing.T) {
	for kind := range kinds {
		for _, room := range []int{0, 1, 8} {
			for _, at := range []int{0, 1, 128, 254, 255} {
				for _, a := range []int{0, 1, 127, 128, 129, 253, 254, 255} {
					for _, b := range []int{0, 1, 127, 128, 129, 253, 254, 255} {
						c := level(bears(made(kind, room), a, b), at)
						hits(t, out(c, 3), 3, at > a)
						hits(t, in(c, 3), 3, at > b)
						hits(t, in(out(c, 3), 3), 3, at > a || at > b)
						hits(t, in(out(c, 3), 5), 3, at > a)
						hits(t, in(out(c, 3), 5), 5, at > b)
						hits(t, in(out(c, 3), 5), 4, false)
						hits(t, c, 3, false)
					}
				}
			}
		}
	}
}

// P18.3: Hit: of many, whoever is ahead; and of what is no process.
func TestHitMany(t *testing.T) {
	c := in(out(made(api.AnyAny, 1), 4, 0, 7), 7, 1, 15) // the senders' end bears 10, the receivers' 20
	for _, w := range []struct {
		level int
		is    []int
	}{{0, nil}, {9, nil}, {10, nil}, {11, []int{0, 4, 7}}, {20, []int{0, 4, 7}}, {21, []int{0, 1, 4, 7, 15}}, {255, []int{0, 1, 4, 7, 15}}} {
		for p := range lastProc + 1 {
			hits(t, level(c, w.level), p, slices.Contains(w.is, p))
		}
		for _, no := range noProcs {
			hits(t, level(c, w.level), no, false)
		}
	}
}

// P18.3, P18.4: What and Do where Room is 0: only Pass may happen, with a first sender and a first receiver, neither of them hit.
func TestPass(t *testing.T) {
	for kind := range kinds {
		none := made(kind, 0)
		only(t, none)
		only(t, out(none, 3))
		only(t, in(none, 5))
		both := in(out(none, 3), 5)
		only(t, both, Pass)
		does(t, both, Pass, none, Move{From: 3, To: 5, Val: 103}, api.OK)
		for _, at := range []int{0, 1, 9, 10} {
			only(t, level(both, at), Pass)
			does(t, level(both, at), Pass, level(none, at), Move{From: 3, To: 5, Val: 103}, api.OK)
		}
		for _, at := range []int{11, 20, 21, 255} {
			only(t, level(both, at))
			only(t, level(bears(both, 255, 10), at))
			only(t, level(bears(both, 10, 255), at))
		}
		only(t, level(bears(both, 255, 255), 255), Pass)
	}
}

// P18.3, P18.4: What and Do where there is room: Put, with a first sender whose end is not hit, unless the channel is full, whoever receives.
func TestPut(t *testing.T) {
	for kind := range kinds {
		for room := 1; room <= lastRoom; room++ {
			for many := range room + 1 {
				c := holds(made(kind, room), []int{11, 12, 13, 14, 15, 16, 17, 18}[:many]...)
				one := out(c, 3)
				if many == room {
					only(t, one)
					continue
				}
				only(t, c)
				only(t, one, Put)
				does(t, one, Put, holds(c, append(slices.Clone(c.Values), 103)...), Move{From: 3, To: -1, Val: 103}, api.OK)
				only(t, level(one, 10), Put)
				only(t, level(one, 11))
				only(t, level(bears(one, 255, 0), 255), Put)
				only(t, level(bears(in(one, 5), 255, 0), 255), Put)
				only(t, level(bears(one, 254, 255), 255))
			}
		}
	}
}

// P18.3, P18.4: What and Do where there is room: Take, with a first receiver whose end is not hit, unless the channel is empty, whoever sends.
func TestTake(t *testing.T) {
	for kind := range kinds {
		for room := 1; room <= lastRoom; room++ {
			for many := range room + 1 {
				c := holds(made(kind, room), []int{11, 12, 13, 14, 15, 16, 17, 18}[:many]...)
				one := in(c, 5)
				if many == 0 {
					only(t, one)
					continue
				}
				only(t, c)
				only(t, one, Take)
				does(t, one, Take, holds(c, c.Values[1:]...), Move{From: -1, To: 5, Val: 11}, api.OK)
				only(t, level(one, 20), Take)
				only(t, level(one, 21))
				only(t, level(bears(one, 0, 255), 255), Take)
				only(t, level(bears(out(one, 3), 0, 255), 255), Take)
				only(t, level(bears(one, 255, 254), 255))
			}
		}
	}
}

// P18.3, P18.4: What and Do where there is room, with a sender and a receiver: empty, half full and full; with one end hit, and with both.
func TestPutAndTake(t *testing.T) {
	for kind := range kinds {
		none := in(out(made(kind, 2), 3), 5)
		some, full := holds(none, 11), holds(none, 11, 12)
		only(t, none, Put)
		only(t, some, Put, Take)
		only(t, full, Take)
		for _, w := range []struct {
			level            int
			none, some, full []int
		}{{10, []int{Put}, []int{Put, Take}, []int{Take}}, {11, nil, []int{Take}, []int{Take}}, {20, nil, []int{Take}, []int{Take}}, {21, nil, nil, nil}, {255, nil, nil, nil}} {
			only(t, level(none, w.level), w.none...)
			only(t, level(some, w.level), w.some...)
			only(t, level(full, w.level), w.full...)
		}
		only(t, bears(level(some, 11), 11, 10), Put)
		only(t, bears(level(full, 11), 11, 10))
		does(t, some, Put, in(holds(made(kind, 2), 11, 103), 5), Move{From: 3, To: -1, Val: 103}, api.OK)
		does(t, some, Take, out(made(kind, 2), 3), Move{From: -1, To: 5, Val: 11}, api.OK)
	}
}

// P18.4: Do, with many at both ends: the first ones are served, and the others stay, in their order; the words at their two ends go through.
func TestDoMany(t *testing.T) {
	c := in(made(api.AnyAny, 0), 5, 1, 15)
	c.Out.Who, c.Vals = []int{9, 3, 0}, []int{low, high, -1}
	want := in(c, 1, 15)
	want.Out.Who, want.Vals = []int{3, 0}, []int{high, -1}
	does(t, c, Pass, want, Move{From: 9, To: 5, Val: low}, api.OK)
	c.Conf.Room, c.Values = 2, []int{high}
	want = c
	want.Out.Who, want.Vals, want.Values = []int{3, 0}, []int{high, -1}, []int{high, low}
	does(t, c, Put, want, Move{From: 9, To: -1, Val: low}, api.OK)
	does(t, c, Take, holds(in(c, 1, 15)), Move{From: -1, To: 5, Val: high}, api.OK)
}

// P18.4: Do, where who sent, or who got, waits at the other end too: it does not wait there any more.
func TestDoBoth(t *testing.T) {
	c := in(out(made(api.AnyAny, 0), 4, 6, 2), 2, 7, 4)
	want := in(out(c, 6), 7)
	does(t, c, Pass, want, Move{From: 4, To: 2, Val: 104}, api.OK)
	self := in(out(made(api.AnyAny, 0), 4, 6), 4, 7)
	does(t, self, Pass, in(out(self, 6), 7), Move{From: 4, To: 4, Val: 104}, api.OK)
	for kind := range kinds {
		one := in(out(made(kind, 0), 4), 4)
		does(t, one, Pass, made(kind, 0), Move{From: 4, To: 4, Val: 104}, api.OK)
		one.Conf.Room, one.Values = 2, []int{11}
		does(t, one, Put, holds(made(kind, 2), 11, 104), Move{From: 4, To: -1, Val: 104}, api.OK)
		does(t, one, Take, made(kind, 2), Move{From: -1, To: 4, Val: 11}, api.OK)
	}
	c.Conf.Room, c.Values = 1, nil
	does(t, c, Put, holds(in(out(c, 6, 2), 2, 7), 104), Move{From: 4, To: -1, Val: 104}, api.OK)
	c.Values = []int{11}
	does(t, c, Take, holds(in(out(c, 4, 6), 7, 4)), Move{From: -1, To: 2, Val: 11}, api.OK)
}

// P18.4: Do of numbers that are no move, of channels in which each move may happen.
func TestDoWrong(t *testing.T) {
	for _, c := range some() {
		for _, move := range noMoves {
			does(t, c, move, c, Move{}, api.ErrState)
		}
	}
}

// P18.1 to P18.4: all that may be, and much that may not, of a few numbers: held against second readings of the chapter.
func TestEvery(t *testing.T) {
	lines := [][]int{nil, {3}, {5}, {3, 5}, {5, 3}, {0, 3, 5}, {3, 3}, {16}}
	for kind := range kinds {
		for room := range 3 {
			for values := range 4 {
				for _, at := range []int{0, 10, 11, 20, 21, 256} {
					c := level(holds(made(kind, room), []int{11, 12, 13}[:values]...), at)
					for i, senders := range lines {
						for k, receivers := range lines {
							every(t, in(out(c, senders...), receivers...), i+k-2, []int{7, 0, high + 1}[(i+k)%3])
						}
					}
				}
			}
		}
	}
}

// P18.1 to P18.4: channels by chance, most of which may be, and some with one thing that spoils them.
func TestChance(t *testing.T) {
	r := rand.New(rand.NewSource(18))
	for range 6000 {
		c := byChance(r)
		if r.Intn(4) == 0 {
			all := spoilt(c)
			c = all[r.Intn(len(all))]
		}
		n := r.Intn(lastLevel+3) - 1
		if r.Intn(3) == 0 {
			n = []int{low - 1, low, high, high + 1, math.MinInt, math.MaxInt}[r.Intn(6)]
		}
		every(t, c, r.Intn(lastProc+3)-1, n)
	}
}

// byChance is a channel that may be.
func byChance(r *rand.Rand) Chan {
	kind := r.Intn(4)
	c := bears(made(kind, r.Intn(lastRoom+1)), r.Intn(lastLevel+1), r.Intn(lastLevel+1))
	c.Level = r.Intn(lastLevel+1) >> r.Intn(9)
	many := func(shared bool) int {
		if shared {
			return r.Intn(lastProc + 2)
		}
		return r.Intn(2)
	}
	c.Out.Who = r.Perm(lastProc + 1)[:many(kinds[kind].out)]
	c.In.Who = r.Perm(lastProc + 1)[:many(kinds[kind].in)]
	for range c.Out.Who {
		c.Vals = append(c.Vals, int(int32(r.Uint32())))
	}
	for range r.Intn(c.Conf.Room + 1) {
		c.Values = append(c.Values, int(int32(r.Uint32())))
	}
	return c
}

// P18.2, P18.4: two answers of one channel do not write over each other, whatever room lies behind its lists.
func TestAnswersOfTheirOwn(t *testing.T) {
	memory := func(l ...int) []int { return append(l, -1, -2, -3, -4)[:len(l)] }
	c := made(api.AnyAny, 4)
	c.Values, c.Out.Who, c.Vals, c.In.Who = memory(11, 12), memory(3, 4, 7), memory(103, 104, 107), memory(5, 6, 0)
	was := copied(c)
	type answer struct{ got, want Chan }
	var l []answer
	add := func(got Chan) Chan {
		l = append(l, answer{got, copied(got)})
		return got
	}
	a, b := add(send(t, c, 8, 1)), add(send(t, c, 9, 2))
	add(send(t, a, 1, 3))
	add(send(t, a, 2, 4))
	add(recv(t, c, 8))
	add(recv(t, recv(t, c, 9), 1))
	for _, p := range []int{0, 3, 4, 5, 6, 7} {
		add(Leave(c, p))
		add(send(t, Leave(c, p), 10, p))
		add(recv(t, Leave(c, p), 10))
	}
	for _, from := range []Chan{c, a, b, Leave(c, 3), Leave(c, 4), Leave(a, 3)} {
		put, _ := do(t, from, Put)
		add(put)
		again, _ := do(t, put, Put)
		add(again)
		taken, _ := do(t, put, Take)
		add(taken)
		twice, _ := do(t, taken, Take)
		add(twice)
	}
	for i, one := range l {
		if !same(one.got, one.want) {
			t.Errorf("answer %d: %v; it was %v", i, one.got, one.want)
		}
	}
	if !same(c, was) {
		t.Errorf("%v; it was %v", c, was)
	}
}

// run is a channel, and what a long run of calls has told of it.
type run struct {
	c         Chan
	put, got  []int       // the values, in order
	out, in   map[int]int // the turn at which each that waits has come
	said      map[int]int // what each that waits sends
	turn, val int
}

// start is a run of a new channel.
func start(t *testing.T, c api.Chan) *run {
	return &run{c: fresh(t, c), out: map[int]int{}, in: map[int]int{}, said: map[int]int{}}
}

// step does one thing with the channel, by chance.
func (r *run) step(t *testing.T, by *rand.Rand) {
	t.Helper()
	p := by.Intn(lastProc + 1)
	r.turn++
	switch n := by.Intn(100); {
	case n < 30:
		r.val++
		r.send(t, p, r.val)
	case n < 60:
		r.recv(t, p)
	case n < 64:
		r.c = Leave(r.c, p)
		r.gone(p)
	case n < 65:
		r.poison(t, 1+by.Intn(lastLevel)>>by.Intn(8))
	default:
		r.do(t, 1+by.Intn(3))
	}
	r.look(t)
}

// send has one send who may, or may not.
func (r *run) send(t *testing.T, p, v int) {
	t.Helper()
	want := api.OK
	if _, is := r.out[p]; is {
		want = api.ErrThere
	} else if len(r.out) > 0 && !kinds[r.c.Conf.Kind].out {
		want = api.ErrBusy
	} else {
		r.out[p], r.said[p] = r.turn, v
	}
	to, e := Send(r.c, p, v)
	if e != want {
		t.Fatalf("Send(%v, %d, %d): %d; want %d", r.c, p, v, e, want)
	}
	r.c = to
}

// recv has one receive who may, or may not.
func (r *run) recv(t *testing.T, p int) {
	t.Helper()
	want := api.OK
	if _, is := r.in[p]; is {
		want = api.ErrThere
	} else if len(r.in) > 0 && !kinds[r.c.Conf.Kind].in {
		want = api.ErrBusy
	} else {
		r.in[p] = r.turn
	}
	to, e := Recv(r.c, p)
	if e != want {
		t.Fatalf("Recv(%v, %d): %d; want %d", r.c, p, e, want)
	}
	r.c = to
}

// poison poisons the channel.
func (r *run) poison(t *testing.T, by int) {
	t.Helper()
	to, e := Poison(r.c, by)
	if want := max(by, r.c.Level); e != api.OK || to.Level != want {
		t.Fatalf("Poison(%v, %d): %d, %d; want %d", r.c, by, to.Level, e, want)
	}
	r.c = to
}

// gone tells that one does not wait any more.
func (r *run) gone(p int) {
	delete(r.out, p)
	delete(r.in, p)
	delete(r.said, p)
}

// earliest is who of those that wait at an end came first; -1, if nobody waits, or the end is hit.
func earliest(came map[int]int, hit bool) int {
	first := -1
	for p, turn := range came {
		if !hit && (first < 0 || turn < came[first]) {
			first = p
		}
	}
	return first
}

// do does a move that may happen, or may not: who takes part, and the value, are told by the order of coming alone.
func (r *run) do(t *testing.T, move int) {
	t.Helper()
	sender, receiver := earliest(r.out, r.c.Level > r.c.Conf.Out), earliest(r.in, r.c.Level > r.c.Conf.In)
	held, room := len(r.put)-len(r.got), r.c.Conf.Room
	may := move == Pass && room == 0 && sender >= 0 && receiver >= 0 || move == Put && held < room && sender >= 0 || move == Take && held > 0 && receiver >= 0
	to, m, e := Do(r.c, move)
	if may != (e == api.OK) || !may && (e != api.ErrState || m != Move{}) {
		t.Fatalf("Do(%v, %d): %v, %d; may it happen: %v", r.c, move, m, e, may)
	}
	r.c = to
	if !may {
		return
	}
	want := Move{From: -1, To: -1}
	if move != Take {
		want.From, want.Val = sender, r.said[sender]
		r.put = append(r.put, m.Val)
	}
	if move != Put {
		want.To, want.Val = receiver, r.put[len(r.got)]
		r.got = append(r.got, m.Val)
	}
	if m != want {
		t.Fatalf("move %d: %v; want %v", move, m, want)
	}
	r.gone(m.From)
	r.gone(m.To)
}

// look fails, unless the channel may be, holds just what was put and not yet taken, and knows who waits.
func (r *run) look(t *testing.T) {
	t.Helper()
	c := r.c
	if !Fine(c) || len(c.Values) > c.Conf.Room || !slices.Equal(c.Values, r.put[len(r.got):]) || !slices.Equal(r.got, r.put[:len(r.got)]) {
		t.Fatalf("%v; put %v, got %v", c, r.put, r.got)
	}
	for _, one := range []struct {
		who  []int
		came map[int]int
	}{{c.Out.Who, r.out}, {c.In.Who, r.in}} {
		if len(one.who) != len(one.came) || !slices.IsSortedFunc(one.who, func(a, b int) int { return one.came[a] - one.came[b] }) {
			t.Fatalf("%v; want %v", one.who, one.came)
		}
	}
	for i, p := range c.Out.Who {
		if c.Vals[i] != r.said[p] {
			t.Fatalf("%v; %d sends %d", c, p, r.said[p])
		}
	}
	for p := range lastProc + 1 {
		_, sends := r.out[p]
		_, gets := r.in[p]
		if want := sends && c.Level > c.Conf.Out || gets && c.Level > c.Conf.In; Hit(c, p) != want {
			t.Fatalf("Hit(%v, %d): %v", c, p, !want)
		}
	}
}

// P18.5: long runs by chance, of each kind and each room: values are taken in the order in which they were put, each once; no channel holds more than its Room; nothing goes through an end that is hit; whoever waits is served in the order of coming. And what was there ahead of each step stays as it was.
func TestRuns(t *testing.T) {
	by := rand.New(rand.NewSource(185))
	for kind := range kinds {
		for room := range lastRoom + 1 {
			for round := range 6 {
				c := api.Chan{Kind: kind, Room: room, In: 255, Out: 255}
				if round > 1 { // nothing hits the ends of the first two
					c.In, c.Out = by.Intn(256), by.Intn(256)
				}
				r := start(t, c)
				var before, were []Chan
				for range 500 {
					before, were = append(before, r.c), append(were, copied(r.c))
					r.step(t, by)
				}
				if round < 2 && (len(r.put) < 15 || len(r.got) < 15) {
					t.Errorf("kind %d, room %d: only %d values were put, and %d got", kind, room, len(r.put), len(r.got))
				}
				for i := range before {
					if !same(before[i], were[i]) {
						t.Fatalf("step %d: %v; it was %v", i, before[i], were[i])
					}
				}
			}
		}
	}
}

// P18.5: what is put goes round through each room, many times, in order.
func TestRound(t *testing.T) {
	for kind := range kinds {
		for room := 1; room <= lastRoom; room++ {
			for many := 1; many <= room; many++ {
				c, next, want := made(kind, room), 0, 0
				for range 20 {
					for range many {
						c, _ = do(t, send(t, c, next%16, next), Put)
						next++
					}
					for range many {
						var m Move
						c, m = do(t, recv(t, c, want%16), Take)
						if m != (Move{From: -1, To: want % 16, Val: want}) {
							t.Fatalf("kind %d, room %d: %v; want %d", kind, room, m, want)
						}
						want++
					}
				}
			}
		}
	}
}

// P18.5: an end that is hit stays hit, whatever is done: nothing goes through it any more, and who comes to it is hit.
func TestStaysHit(t *testing.T) {
	by := rand.New(rand.NewSource(1805))
	for kind := range kinds {
		for _, room := range []int{0, 1, 3, 8} {
			for _, w := range []ends{{true, false}, {false, true}, {true, true}} {
				bear := map[bool]int{true: 4, false: 255}
				r := start(t, api.Chan{Kind: kind, Room: room, In: bear[w.in], Out: bear[w.out]})
				for range 100 {
					r.step(t, by)
				}
				r.poison(t, 5)
				put, got := len(r.put), len(r.got)
				for range 300 {
					r.step(t, by)
					if w.out && len(r.put) > put || w.in && len(r.got) > got {
						t.Fatalf("kind %d, room %d, %v: %d were put, and %d got, where it was poisoned at %d and %d", kind, room, w, len(r.put), len(r.got), put, got)
					}
				}
			}
		}
	}
}
