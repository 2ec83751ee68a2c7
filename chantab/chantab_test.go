package chantab

import (
	"math"
	"math/rand"
	"slices"
	"testing"

	"becket/api"
	"becket/channel"
	"becket/claims"
)

// What the document tells: how many channels there are at most, the last process, the strongest poison, and the two ends of the words.
const (
	mostChans = 8
	lastProc  = 15
	lastLevel = 255
	low       = -1 << 31
	high      = 1<<31 - 1
)

// ends are which ends of a channel are shared.
type ends struct{ out, in bool }

// kinds are the ends that each kind has shared: OneOne, AnyOne, OneAny, AnyAny.
var kinds = []ends{{false, false}, {true, false}, {false, true}, {true, true}}

// both are what alting may be.
var both = []bool{false, true}

// far are numbers that are none of anything that a table has: the ends of int, and such as lose their height, or their sign, when they are cut to fewer bits.
var far = []int{math.MinInt, math.MinInt + 1, math.MinInt + 3, -1 << 62, -1 << 40, 1 << 40, 1<<40 + 1, 1<<40 + 2, 1 << 62, math.MaxInt - 1, math.MaxInt}

// Numbers that are no processes, no words, no strengths, and no moves; and kinds of guards that are none of a channel.
var (
	noProcs     = slices.Concat(far, []int{-256, -251, -17, -16, -15, -5, -2, -1, 16, 17, 31, 32, 255, 256, 261, 65536, 65541, 1 << 32, 1<<32 + 5})
	noWords     = slices.Concat(far, []int{-1 << 33, -1<<32 - 1, -1 << 32, -1<<32 + 7, low - 2, low - 1, high + 1, high + 2, 1<<32 - 1, 1 << 32, 1<<32 + 7})
	noStrengths = slices.Concat(far, []int{-65536, -257, -256, -255, -2, -1, 0, 256, 257, 511, 512, 65536, 65791, 1 << 32, 1<<32 + 255})
	noMoves     = slices.Concat(far, []int{-256, -255, -3, -2, -1, 0, 4, 5, 6, 255, 256, 257, 258, 259, 65537, 1 << 32, 1<<32 + 1, 1<<32 + 2, 1<<32 + 3})
	otherKinds  = slices.Concat(far, []int{3, 4, 5, 6, 0, 7, 8, -1, -2, -255, -254, 255, 256, 257, 258, 65537, 65538, 1<<32 + 1, 1<<32 + 2})
)

// noChans are numbers of no channel of a table of so many.
func noChans(many int) []int {
	l := slices.Concat(far, []int{-1 << 32, -65536, -256, -255, -9, -8, -2, -1})
	for _, n := range []int{many, many + 1, many + 8, 16, 255, 256, 257, 65536, 65537, 1 << 32, 1<<32 + 1} {
		if n >= many {
			l = append(l, n)
		}
	}
	return l
}

// conf is what a channel is to be: its receivers' end bears 20, that of its senders 10.
func conf(kind, room int) api.Chan { return api.Chan{Kind: kind, Room: room, In: 20, Out: 10} }

// four are what channels of all four kinds are to be.
func four(room int) []api.Chan {
	return []api.Chan{conf(0, room), conf(1, room), conf(2, room), conf(3, room)}
}

// fresh is a table in which nothing is, and in which nobody waits.
func fresh(l ...api.Chan) []channel.Chan {
	var table []channel.Chan
	for _, c := range l {
		table = append(table, channel.Chan{Conf: c, Out: claims.Line{Shared: kinds[c.Kind].out}, In: claims.Line{Shared: kinds[c.Kind].in}})
	}
	return table
}

// in is a guard by which one waits for a value; what it has beside its channel is nothing to a table.
func in(c int) api.Guard { return api.Guard{Kind: api.In, Obj: c, Val: high + 1, Reg: 9, No: -3} }

// out is a guard by which one waits with a value.
func out(c, v int) api.Guard { return api.Guard{Kind: api.Out, Obj: c, Val: v, Reg: -1, No: 77} }

// other is a guard of no channel.
func other(kind, n int) api.Guard { return api.Guard{Kind: kind, Obj: n, Val: n, Reg: n, No: n} }

// guards is a list of guards.
func guards(l ...api.Guard) []api.Guard { return l }

// sends is a channel with these senders, each of which sends a hundred more than its number.
func sends(c channel.Chan, who ...int) channel.Chan {
	c.Out.Who, c.Vals = who, nil
	for _, p := range who {
		c.Vals = append(c.Vals, p+100)
	}
	return c
}

// gets is a channel with these receivers.
func gets(c channel.Chan, who ...int) channel.Chan {
	c.In.Who = who
	return c
}

// holds is a channel with other values.
func holds(c channel.Chan, values ...int) channel.Chan {
	c.Values = values
	return c
}

// level is a channel with another level.
func level(c channel.Chan, n int) channel.Chan {
	c.Level = n
	return c
}

// put is a list with another thing at a place.
func put[T any](l []T, at int, x T) []T {
	own := slices.Clone(l)
	own[at] = x
	return own
}

// copied is a table in memory of its own.
func copied(table []channel.Chan) []channel.Chan {
	own := slices.Clone(table)
	for i := range own {
		c := &own[i]
		c.Values, c.Vals = slices.Clone(c.Values), slices.Clone(c.Vals)
		c.Out.Who, c.In.Who = slices.Clone(c.Out.Who), slices.Clone(c.In.Who)
	}
	return own
}

// sameChan tells whether two channels are the same: a list that is nil is an empty one.
func sameChan(a, b channel.Chan) bool {
	return a.Conf == b.Conf && a.Level == b.Level && slices.Equal(a.Values, b.Values) && slices.Equal(a.Vals, b.Vals) &&
		a.Out.Shared == b.Out.Shared && a.In.Shared == b.In.Shared && slices.Equal(a.Out.Who, b.Out.Who) && slices.Equal(a.In.Who, b.In.Who)
}

// same tells whether two tables are the same.
func same(a, b []channel.Chan) bool { return slices.EqualFunc(a, b, sameChan) }

// waiting tells whether one waits anywhere in a table.
func waiting(table []channel.Chan, p int) bool {
	return slices.ContainsFunc(table, func(c channel.Chan) bool { return slices.Contains(c.Out.Who, p) || slices.Contains(c.In.Who, p) })
}

// kept is a table that lies within longer memory, as do the lists of its channels, and what fails, unless all of that is as it was.
func kept(t *testing.T, table []channel.Chan) ([]channel.Chan, func(what string)) {
	t.Helper()
	var lists, were [][]int
	long := func(l *[]int) {
		all := append(slices.Clone(*l), -73, -74, -75)
		lists, were = append(lists, all), append(were, slices.Clone(all))
		*l = all[:len(*l)]
	}
	odd := sends(channel.Chan{Level: -71}, 3)
	memory := slices.Concat([]channel.Chan{odd}, table, []channel.Chan{odd, odd, odd})
	for i := range memory {
		c := &memory[i]
		long(&c.Values)
		long(&c.Out.Who)
		long(&c.Vals)
		long(&c.In.Who)
	}
	before := copied(memory)
	return memory[1 : 1+len(table)], func(what string) {
		t.Helper()
		if !same(memory, before) || !slices.EqualFunc(lists, were, slices.Equal) {
			t.Errorf("%s: it has written to %v, %v: %v, %v", what, before, were, memory, lists)
		}
	}
}

// keptGuards is a list of guards that lies within longer memory, and what fails, unless all of that is as it was.
func keptGuards(t *testing.T, l []api.Guard) ([]api.Guard, func()) {
	t.Helper()
	memory := slices.Concat(guards(other(-71, -72)), l, guards(other(-73, -74), other(-75, -76)))
	before := slices.Clone(memory)
	return memory[1 : 1+len(l)], func() {
		t.Helper()
		if !slices.Equal(memory, before) {
			t.Errorf("Offer: it has written to %v: %v", before, memory)
		}
	}
}

// news fails, unless New answers so, and leaves its list as it was.
func news(t *testing.T, l []api.Chan, want []channel.Chan, at int, err api.Errno) {
	t.Helper()
	memory := slices.Concat([]api.Chan{{Kind: -71}}, l, []api.Chan{{Kind: -72}, {Kind: -73}})
	before := slices.Clone(memory)
	if got, place, e := New(memory[1 : 1+len(l)]); !same(got, want) || place != at || e != err {
		t.Errorf("New(%v): %v, %d, %d; want %v, %d, %d", l, got, place, e, want, at, err)
	}
	if !slices.Equal(memory, before) {
		t.Errorf("New: it has written to %v: %v", before, memory)
	}
}

// offers fails, unless Offer answers so, and leaves its lists as they were.
func offers(t *testing.T, table []channel.Chan, p int, l []api.Guard, alting bool, want []channel.Chan, at int, err api.Errno) {
	t.Helper()
	own, check := kept(t, table)
	list, checkList := keptGuards(t, l)
	if got, place, e := Offer(own, p, list, alting); !same(got, want) || place != at || e != err {
		t.Errorf("Offer(%v, %d, %v, %v): %v, %d, %d; want %v, %d, %d", table, p, l, alting, got, place, e, want, at, err)
	}
	check("Offer")
	checkList()
}

// refuses fails, unless Offer answers that error at that place, and the table as it was.
func refuses(t *testing.T, table []channel.Chan, p int, l []api.Guard, alting bool, at int, err api.Errno) {
	t.Helper()
	offers(t, table, p, l, alting, table, at, err)
}

// leaves fails, unless Leave answers so, and leaves the table as it was.
func leaves(t *testing.T, table []channel.Chan, p int, want []channel.Chan) {
	t.Helper()
	own, check := kept(t, table)
	if got := Leave(own, p); !same(got, want) {
		t.Errorf("Leave(%v, %d): %v; want %v", table, p, got, want)
	}
	check("Leave")
}

// poisons fails, unless Poison answers so, and leaves the table as it was.
func poisons(t *testing.T, table []channel.Chan, c, by int, want []channel.Chan, err api.Errno) {
	t.Helper()
	own, check := kept(t, table)
	if got, e := Poison(own, c, by); !same(got, want) || e != err {
		t.Errorf("Poison(%v, %d, %d): %v, %d; want %v, %d", table, c, by, got, e, want, err)
	}
	check("Poison")
}

// moves fails, unless Moves answers so, each time in new memory, and leaves the table as it was.
func moves(t *testing.T, table []channel.Chan, want ...At) {
	t.Helper()
	own, check := kept(t, table)
	for range 2 {
		got := Moves(own)
		if !slices.Equal(got, want) {
			t.Errorf("Moves(%v): %v; want %v", table, got, want)
		}
		for i := range got {
			got[i] = At{-9, -9}
		}
	}
	check("Moves")
}

// hits fails, unless Hits answers so, each time in new memory, and leaves the table as it was.
func hits(t *testing.T, table []channel.Chan, p int, want ...int) {
	t.Helper()
	own, check := kept(t, table)
	for range 2 {
		got := Hits(own, p)
		if !slices.Equal(got, want) {
			t.Errorf("Hits(%v, %d): %v; want %v", table, p, got, want)
		}
		for i := range got {
			got[i] = -9
		}
	}
	check("Hits")
}

// does fails, unless Do answers so, and leaves the table as it was.
func does(t *testing.T, table []channel.Chan, a At, want []channel.Chan, m channel.Move, err api.Errno) {
	t.Helper()
	own, check := kept(t, table)
	if got, it, e := Do(own, a); !same(got, want) || it != m || e != err {
		t.Errorf("Do(%v, %v): %v, %v, %d; want %v, %v, %d", table, a, got, it, e, want, m, err)
	}
	check("Do")
}

// only fails, unless Moves tells these moves, and just these can be done: all others, and all that are none, are refused.
func only(t *testing.T, table []channel.Chan, want ...At) {
	t.Helper()
	moves(t, table, want...)
	for _, a := range want {
		if _, _, e := Do(copied(table), a); e != api.OK {
			t.Errorf("Do(%v, %v): %d", table, a, e)
		}
	}
	for c := range table {
		err := api.ErrState
		if !channel.Fine(table[c]) {
			err = api.ErrArg
		}
		for _, move := range slices.Concat([]int{1, 2, 3}, noMoves) {
			if a := (At{c, move}); !slices.Contains(want, a) {
				does(t, table, a, table, channel.Move{}, err)
			}
		}
	}
	for _, c := range noChans(len(table)) {
		for _, move := range []int{1, 2, 3, 0, 4, math.MinInt, math.MaxInt} {
			does(t, table, At{c, move}, table, channel.Move{}, api.ErrRange)
		}
	}
}

// isShared is a second reading of when an end is shared.
func isShared(c channel.Chan, kind int) bool {
	is := ends{c.Out.Shared, c.In.Shared}
	if channel.Fine(c) {
		is = kinds[c.Conf.Kind]
	}
	return kind == api.In && is.in || kind == api.Out && is.out
}

// offered is a second reading of what Offer answers.
func offered(table []channel.Chan, p int, l []api.Guard, alting bool) ([]channel.Chan, int, api.Errno) {
	to := copied(table)
	for i, g := range l {
		var e api.Errno
		switch {
		case g.Kind != 1 && g.Kind != 2:
		case !slices.Contains([]int{0, 1, 2, 3, 4, 5, 6, 7, 8, 9, 10, 11}[:len(table)], g.Obj):
			e = api.ErrRange
		case alting && isShared(to[g.Obj], g.Kind):
			e = api.ErrKind
		case g.Kind == 1:
			to[g.Obj], e = channel.Recv(to[g.Obj], p)
		case g.Kind == 2:
			to[g.Obj], e = channel.Send(to[g.Obj], p, g.Val)
		}
		if e != api.OK {
			return table, i, e
		}
	}
	return to, 0, api.OK
}

// every holds all calls of a table against second readings.
func every(t *testing.T, table []channel.Chan, p, by int, l []api.Guard) {
	t.Helper()
	for _, alting := range both {
		want, at, e := offered(table, p, l, alting)
		offers(t, table, p, l, alting, want, at, e)
	}
	gone := copied(table)
	var able []At
	var hit []int
	for i, c := range table {
		gone[i] = channel.Leave(c, p)
		for _, move := range channel.What(c) {
			able = append(able, At{i, move})
		}
		if channel.Hit(c, p) {
			hit = append(hit, i)
		}
		to, e := channel.Poison(c, by)
		poisons(t, table, i, by, put(table, i, to), e)
		for move := range 5 {
			to, m, e := channel.Do(c, move)
			does(t, table, At{i, move}, put(table, i, to), m, e)
		}
	}
	leaves(t, table, p, gone)
	moves(t, table, able...)
	hits(t, table, p, hit...)
	for _, c := range []int{-1, len(table)} {
		poisons(t, table, c, by, table, api.ErrRange)
		does(t, table, At{c, 1}, table, channel.Move{}, api.ErrRange)
	}
}

// spoilt are channels of a kind that may not be, each because of one thing; but for the last two, their lines are shared as the kind says.
func spoilt(kind int) []channel.Chan {
	fine := gets(sends(holds(fresh(conf(kind, 2))[0], 11), 3), 5)
	var l []channel.Chan
	add := func(change func(c *channel.Chan)) {
		one := copied([]channel.Chan{fine})[0]
		change(&one)
		l = append(l, one)
	}
	for _, n := range []int{math.MinInt, -1, 256, math.MaxInt} {
		add(func(c *channel.Chan) { c.Conf.Kind = n })
		add(func(c *channel.Chan) { c.Conf.Room = n })
		add(func(c *channel.Chan) { c.Conf.In = n })
		add(func(c *channel.Chan) { c.Conf.Out = n })
		add(func(c *channel.Chan) { c.Level = n })
		add(func(c *channel.Chan) { c.Out.Who[0] = n })
		add(func(c *channel.Chan) { c.In.Who[0] = n })
	}
	add(func(c *channel.Chan) { c.Conf.Kind = 4 })
	add(func(c *channel.Chan) { c.Conf.Room = 9 })
	add(func(c *channel.Chan) { c.Values = []int{1, 2, 3} })
	add(func(c *channel.Chan) { c.Values[0] = high + 1 })
	add(func(c *channel.Chan) { c.Vals[0] = low - 1 })
	add(func(c *channel.Chan) { c.Vals = nil })
	add(func(c *channel.Chan) { c.Vals = []int{1, 2} })
	add(func(c *channel.Chan) { *c = sends(*c, 3, 3) })
	add(func(c *channel.Chan) { *c = gets(*c, 5, 5) })
	add(func(c *channel.Chan) { *c = sends(*c, 16) })
	add(func(c *channel.Chan) { c.Out.Shared = !c.Out.Shared })
	add(func(c *channel.Chan) { c.In.Shared = !c.In.Shared })
	return l
}

// The chapter's example; and both guards are withdrawn again.
func TestExample(t *testing.T) {
	for _, alting := range both {
		table, _, e := New([]api.Chan{{}, {}})
		if e != api.OK {
			t.Fatal(e)
		}
		want := []channel.Chan{gets(channel.Chan{}, 3), gets(channel.Chan{}, 3)}
		offers(t, table, 3, guards(api.Guard{Kind: api.In}, api.Guard{Kind: api.In, Obj: 1, No: 1}), alting, want, 0, api.OK)
		leaves(t, want, 3, table)
	}
}

// P19.1: New of none, one, and more, up to as many as there may be, of all kinds.
func TestNew(t *testing.T) {
	news(t, nil, nil, 0, api.OK)
	news(t, []api.Chan{}, nil, 0, api.OK)
	for many := range mostChans + 1 {
		for kind := range kinds {
			for _, room := range []int{0, 1, 8} {
				var l []api.Chan
				for i := range many {
					l = append(l, api.Chan{Kind: (kind + i) % 4, Room: room, In: i, Out: 255 - i})
				}
				news(t, l, fresh(l...), 0, api.OK)
				table, _, _ := New(l)
				only(t, table)
				for p := range lastProc + 1 {
					hits(t, table, p)
					leaves(t, table, p, table)
				}
			}
		}
	}
}

// P19.1: New of more channels than there may be: that is told ahead of any that may not be, wherever it is.
func TestNewMany(t *testing.T) {
	for _, many := range []int{9, 10, 11, 16, 17, 255, 256, 257, 264, 65536, 65544} {
		l := make([]api.Chan, many)
		news(t, l, nil, 8, api.ErrMany)
		for _, at := range []int{0, 1, 7, 8, many - 1} {
			for _, no := range []api.Chan{{Kind: 4}, {Room: -1}, {In: 256}} {
				news(t, put(l, at, no), nil, 8, api.ErrMany)
			}
		}
	}
}

// noConfs are what no channel may be, with the errors.
func noConfs() map[api.Chan]api.Errno {
	l := map[api.Chan]api.Errno{}
	for _, n := range []int{math.MinInt, -256, -1, 256, 1 << 32, math.MaxInt} {
		l[api.Chan{Kind: n}] = api.ErrKind
		l[api.Chan{Kind: n, Room: n, In: n, Out: n}] = api.ErrKind
		l[api.Chan{Room: n}] = api.ErrRange
		l[api.Chan{In: n}] = api.ErrRange
		l[api.Chan{Out: n}] = api.ErrRange
	}
	l[api.Chan{Kind: 4}] = api.ErrKind
	l[api.Chan{Kind: 3, Room: 9}] = api.ErrRange
	return l
}

// P19.1: New with one that may not be, at each place of lists of all lengths: its place, and its error.
func TestNewWrong(t *testing.T) {
	for no, e := range noConfs() {
		for many := 1; many <= mostChans; many++ {
			for at := range many {
				l := make([]api.Chan, many)
				for i := range l {
					l[i] = conf(i%4, i)
				}
				news(t, put(l, at, no), nil, at, e)
			}
		}
	}
}

// P19.1: New with more than one that may not be: the place and the error are those of the first one.
func TestNewFirst(t *testing.T) {
	all := noConfs()
	for first, e := range all {
		for second := range all {
			for _, at := range [][2]int{{0, 1}, {0, 7}, {3, 4}, {3, 7}, {6, 7}} {
				l := put(put(make([]api.Chan, mostChans), at[0], first), at[1], second)
				news(t, l, nil, at[0], e)
			}
		}
	}
}

// P19.1: a table stays as it is, whatever is written to the list that it was made of.
func TestNewKeeps(t *testing.T) {
	l := four(2)
	table, _, _ := New(l)
	clear(l)
	if want := fresh(four(2)...); !same(table, want) {
		t.Errorf("%v; want %v", table, want)
	}
}

// P19.2: Offer without guards, and with guards of no channel alone: the table as it is, whoever waits, and whatever is in the table.
func TestOfferNothing(t *testing.T) {
	bad := slices.Concat(spoilt(0), spoilt(3))
	for _, table := range [][]channel.Chan{nil, fresh(four(1)...), bad} {
		for _, alting := range both {
			for _, p := range []int{math.MinInt, -1, 0, 3, 15, 16, math.MaxInt} {
				offers(t, table, p, nil, alting, table, 0, api.OK)
				for _, kind := range otherKinds {
					offers(t, table, p, guards(other(kind, 0)), alting, table, 0, api.OK)
					offers(t, table, p, guards(other(kind, -1), other(3, 99), other(kind, math.MaxInt), other(kind, math.MinInt)), alting, table, 0, api.OK)
				}
			}
		}
	}
}

// P19.2: Offer of one guard, In and Out, of each channel of a table, by each process: it waits there alone, and behind those that were there already.
func TestOfferOne(t *testing.T) {
	for _, room := range []int{0, 1, 8} {
		table := fresh(slices.Concat(four(room), four(room))...)
		for c := range table {
			for p := range lastProc + 1 {
				offers(t, table, p, guards(in(c)), false, put(table, c, gets(table[c], p)), 0, api.OK)
				offers(t, table, p, guards(out(c, p+100)), false, put(table, c, sends(table[c], p)), 0, api.OK)
			}
			for _, v := range []int{low, low + 1, -1, 0, high - 1, high} {
				want := sends(table[c], 3)
				want.Vals = []int{v}
				offers(t, table, 3, guards(out(c, v)), false, put(table, c, want), 0, api.OK)
			}
		}
	}
	table := fresh(four(1)...)
	table = put(put(put(table, 1, sends(table[1], 9, 3)), 2, gets(table[2], 0, 15)), 3, gets(sends(table[3], 4), 5))
	offers(t, table, 2, guards(out(1, 102)), false, put(table, 1, sends(table[1], 9, 3, 2)), 0, api.OK)
	offers(t, table, 2, guards(in(2)), false, put(table, 2, gets(table[2], 0, 15, 2)), 0, api.OK)
	offers(t, table, 2, guards(in(3)), false, put(table, 3, gets(table[3], 5, 2)), 0, api.OK)
	offers(t, table, 5, guards(out(3, 105)), false, put(table, 3, sends(table[3], 4, 5)), 0, api.OK)
}

// P19.2: Offer of several guards: In and Out of one channel, and of several, with guards of no channel between, in each order.
func TestOfferMany(t *testing.T) {
	table := fresh(conf(0, 0), conf(0, 3), conf(3, 1))
	one, two := guards(in(0), out(0, 103)), guards(other(3, 99), in(0), other(5, -1), other(4, 0), out(0, 103), other(6, 8))
	for _, alting := range both {
		want := put(table, 0, sends(gets(table[0], 3), 3))
		offers(t, table, 3, one, alting, want, 0, api.OK)
		offers(t, table, 3, two, alting, want, 0, api.OK)
		slices.Reverse(one)
		slices.Reverse(two)
		offers(t, table, 3, one, alting, want, 0, api.OK)
		offers(t, table, 3, two, alting, want, 0, api.OK)
		want = put(want, 1, sends(gets(table[1], 3), 3))
		offers(t, table, 3, slices.Concat(two, guards(out(1, 103), in(1))), alting, want, 0, api.OK)
		offers(t, table, 3, slices.Concat(guards(in(1), out(1, 103)), two), alting, want, 0, api.OK)
	}
	want := put(put(table, 2, sends(gets(table[2], 3), 3)), 1, sends(table[1], 3))
	offers(t, table, 3, guards(in(2), other(5, 0), out(1, 103), out(2, 103)), false, want, 0, api.OK)
	many := guards(in(0), out(0, 103), in(1), out(1, 103), in(2), out(2, 103), other(5, 0), other(5, 0), other(5, 0))
	offers(t, table, 3, many, false, put(put(want, 0, sends(gets(table[0], 3), 3)), 1, sends(gets(table[1], 3), 3)), 0, api.OK)
}

// P19.2: Offer at tables that are longer than New makes them: their channels are told by their places as well.
func TestOfferLong(t *testing.T) {
	table := fresh(make([]api.Chan, 12)...)
	for c := range table {
		offers(t, table, 3, guards(in(c)), true, put(table, c, gets(table[c], 3)), 0, api.OK)
		poisons(t, table, c, 5, put(table, c, level(table[c], 5)), api.OK)
		only(t, put(table, c, sends(gets(table[c], 5), 3)), At{c, 1})
	}
}

// places are lists with that guard ahead of, among, and behind others that may be, one of which is of no channel: the first one has it at place 0, and so on.
func places(g api.Guard) [][]api.Guard {
	var l [][]api.Guard
	fine := guards(in(5), other(4, 0), out(6, 7))
	for at := range len(fine) + 1 {
		l = append(l, slices.Insert(slices.Clone(fine), at, g))
	}
	return l
}

// wide is a table with these channels ahead, and three more, which one may wait at by an alt.
func wide(first ...channel.Chan) []channel.Chan {
	rest := fresh(make([]api.Chan, 8)...)
	return slices.Concat(first, rest[len(first):])
}

// everywhere fails, unless that guard is refused by that error at the first place, in the middle, and at the last one, and none of the guards ahead of it has one wait.
func everywhere(t *testing.T, table []channel.Chan, p int, g api.Guard, alting bool, err api.Errno) {
	t.Helper()
	refuses(t, table, p, guards(g), alting, 0, err)
	for at, l := range places(g) {
		refuses(t, table, p, l, alting, at, err)
	}
}

// P19.2: Offer of a channel that is not there: just below and beyond the table's numbers, and far from them; whatever else is wrong.
func TestOfferNoChannel(t *testing.T) {
	for _, alting := range both {
		for _, p := range []int{3, -1, 16} {
			for _, table := range [][]channel.Chan{nil, fresh(conf(0, 0)), fresh(four(1)...), spoilt(3)} {
				for _, c := range noChans(len(table)) {
					refuses(t, table, p, guards(in(c)), alting, 0, api.ErrRange)
					refuses(t, table, p, guards(out(c, 7)), alting, 0, api.ErrRange)
					refuses(t, table, p, guards(out(c, high+1)), alting, 0, api.ErrRange)
					refuses(t, table, p, guards(other(5, 0), other(3, 1), in(c)), alting, 2, api.ErrRange)
				}
			}
		}
		for _, c := range noChans(8) {
			everywhere(t, wide(), 3, in(c), alting, api.ErrRange)
			everywhere(t, wide(), 3, out(c, 7), alting, api.ErrRange)
		}
	}
}

// P19.2: Offer at ends that are shared, and at such as are not, of each kind: alting is refused just at those that are, and told ahead of all else that is wrong with the channel, the word, or the process.
func TestOfferAlting(t *testing.T) {
	for kind, shared := range kinds {
		for _, room := range []int{0, 1} {
			c := fresh(conf(kind, room))[0]
			for _, one := range []channel.Chan{c, level(c, 255), gets(sends(c, 9), 9)} {
				table := wide(one)
				if shared.in {
					everywhere(t, table, 3, in(0), true, api.ErrKind)
					everywhere(t, table, 9, in(0), true, api.ErrKind)
					refuses(t, table, -1, guards(in(0)), true, 0, api.ErrKind)
				}
				if shared.out {
					everywhere(t, table, 3, out(0, 7), true, api.ErrKind)
					everywhere(t, table, 9, out(0, high+1), true, api.ErrKind)
					refuses(t, table, 16, guards(out(0, low-1)), true, 0, api.ErrKind)
				}
			}
			for _, alting := range both {
				if !alting || !shared.in {
					offers(t, wide(c), 3, guards(in(0)), alting, wide(gets(c, 3)), 0, api.OK)
				}
				if !alting || !shared.out {
					offers(t, wide(c), 3, guards(out(0, 103)), alting, wide(sends(c, 3)), 0, api.OK)
				}
			}
		}
	}
}

// P19.2: Offer of a channel that may not be, of each kind: whether its end is shared is told by its line, not by its kind; else alting makes no difference.
func TestOfferSpoilt(t *testing.T) {
	for kind := range kinds {
		for _, c := range spoilt(kind) {
			inWant, outWant := api.ErrArg, api.ErrArg
			if c.In.Shared {
				inWant = api.ErrKind
			}
			if c.Out.Shared {
				outWant = api.ErrKind
			}
			everywhere(t, wide(c), 9, in(0), true, inWant)
			everywhere(t, wide(c), 9, out(0, 7), true, outWant)
			everywhere(t, wide(c), 9, in(0), false, api.ErrArg)
			for _, p := range []int{3, 5, 9, -1, 16} { // told ahead of a word that is none, and of all that Join tells
				refuses(t, wide(c), p, guards(in(0)), false, 0, api.ErrArg)
				refuses(t, wide(c), p, guards(out(0, 7)), false, 0, api.ErrArg)
				refuses(t, wide(c), p, guards(out(0, high+1)), false, 0, api.ErrArg)
			}
			offers(t, wide(c), 9, guards(in(5), out(6, 109)), true, put(put(wide(c), 5, gets(wide()[5], 9)), 6, sends(wide()[6], 9)), 0, api.OK)
		}
	}
	odd := fresh(conf(0, 0))[0]
	odd.Conf.Kind = 3 // neither line is shared, though the kind says so
	everywhere(t, wide(odd), 3, in(0), true, api.ErrArg)
	everywhere(t, wide(odd), 3, out(0, 7), true, api.ErrArg)
	odd = fresh(conf(3, 0))[0]
	odd.Conf.Kind = 0 // both are, though it does not
	everywhere(t, wide(odd), 3, in(0), true, api.ErrKind)
	everywhere(t, wide(odd), 3, out(0, 7), true, api.ErrKind)
}

// P19.2: Offer with each of the errors of channel.Recv and channel.Send, at each place, alting and not.
func TestOfferErrors(t *testing.T) {
	c := gets(sends(fresh(conf(0, 1))[0], 3), 5)
	for _, alting := range both {
		everywhere(t, wide(c), 5, in(0), alting, api.ErrThere)
		everywhere(t, wide(c), 3, out(0, 7), alting, api.ErrThere)
		everywhere(t, wide(c), 3, in(0), alting, api.ErrBusy)
		everywhere(t, wide(c), 5, out(0, 7), alting, api.ErrBusy)
		for _, p := range noProcs {
			refuses(t, wide(c), p, guards(in(0)), alting, 0, api.ErrRange)
			refuses(t, wide(c), p, guards(other(5, 0), out(0, 7)), alting, 1, api.ErrRange)
			refuses(t, wide(c), p, guards(other(5, 0), in(5), in(5)), alting, 1, api.ErrRange)
		}
		for _, v := range noWords {
			everywhere(t, wide(c), 9, out(0, v), alting, api.ErrRange)
			everywhere(t, wide(c), 3, out(0, v), alting, api.ErrRange)
			everywhere(t, wide(), 9, out(0, v), alting, api.ErrRange)
		}
	}
	many := gets(sends(fresh(conf(3, 1))[0], 3, 9, 0), 5, 9, 1)
	for _, p := range []int{5, 9, 1} {
		everywhere(t, wide(many), p, in(0), false, api.ErrThere)
	}
	for _, p := range []int{3, 9, 0} {
		everywhere(t, wide(many), p, out(0, 7), false, api.ErrThere)
	}
}

// P19.2: Offer with more than one guard that is refused: the first one's place and error are told.
func TestOfferFirst(t *testing.T) {
	bad, busy := spoilt(0)[0], sends(fresh(conf(1, 0))[0], 3)
	table := wide(bad, busy, gets(fresh(conf(0, 0))[0], 9))
	wrong := []struct {
		g api.Guard
		e api.Errno
	}{{in(8), api.ErrRange}, {in(0), api.ErrArg}, {out(1, 7), api.ErrKind}, {out(3, high+1), api.ErrRange}, {in(2), api.ErrBusy}, {out(-1, 7), api.ErrRange}}
	for _, a := range wrong {
		for _, b := range wrong {
			refuses(t, table, 3, guards(a.g, b.g), true, 0, a.e)
			refuses(t, table, 3, guards(in(4), a.g, in(5), b.g), true, 1, a.e)
			refuses(t, table, 3, guards(in(4), other(5, 0), out(4, 7), a.g, b.g), true, 3, a.e)
		}
	}
}

// P19.2: a guard that is offered twice, at once and one offer behind the other: the second one is there already, whether its end is shared or not.
func TestOfferTwice(t *testing.T) {
	for kind, shared := range kinds {
		table := wide(fresh(conf(kind, 1))[0])
		for _, alting := range both {
			if !alting || !shared.in {
				refuses(t, table, 3, guards(in(0), in(0)), alting, 1, api.ErrThere)
				refuses(t, table, 3, guards(in(0), other(5, 0), in(5), in(0), in(0)), alting, 3, api.ErrThere)
				once, _, _ := Offer(table, 3, guards(in(0)), alting)
				refuses(t, once, 3, guards(in(5), in(0)), alting, 1, api.ErrThere)
			}
			if !alting || !shared.out {
				refuses(t, table, 3, guards(out(0, 7), out(0, 7)), alting, 1, api.ErrThere)
				refuses(t, table, 3, guards(out(0, 7), other(5, 0), in(5), out(0, 8), out(0, 7)), alting, 3, api.ErrThere)
				once, _, _ := Offer(table, 3, guards(out(0, 7)), alting)
				refuses(t, once, 3, guards(in(5), out(0, 7)), alting, 1, api.ErrThere)
			}
		}
	}
}

// P19.3: Leave of who waits nowhere, at one end, at both ends of a channel, and in several channels: the others stay, in their order.
func TestLeave(t *testing.T) {
	table := fresh(four(2)...)
	table = []channel.Chan{
		gets(sends(table[0], 3), 3), sends(holds(table[1], 11, 12), 5, 3, 9), gets(level(table[2], 255), 9, 5),
		gets(sends(table[3], 3, 5, 0), 9, 15, 3), table[0], gets(table[0], 5), sends(table[0], 9),
	}
	leaves(t, nil, 3, nil)
	leaves(t, table, 4, table)
	for _, p := range noProcs {
		leaves(t, table, p, table)
	}
	leaves(t, table, 15, put(table, 3, gets(table[3], 9, 3)))
	leaves(t, table, 0, put(table, 3, sends(table[3], 3, 5)))
	gone := slices.Clone(table)
	gone[0], gone[1], gone[3] = gets(sends(table[0])), sends(table[1], 5, 9), gets(sends(table[3], 5, 0), 9, 15)
	leaves(t, table, 3, gone)
	gone = slices.Clone(table)
	gone[1], gone[2], gone[3], gone[5] = sends(table[1], 3, 9), gets(table[2], 9), sends(table[3], 3, 0), gets(table[5])
	leaves(t, table, 5, gone)
	gone = slices.Clone(table)
	gone[1], gone[2], gone[3], gone[6] = sends(table[1], 5, 3), gets(table[2], 5), gets(table[3], 15, 3), sends(table[6])
	leaves(t, table, 9, gone)
	for p := range lastProc + 1 {
		once := Leave(table, p)
		if waiting(once, p) {
			t.Errorf("%d waits yet: %v", p, once)
		}
		leaves(t, once, p, once)
	}
}

// P19.3: Leave among channels that may not be, of each kind: these stay as they are, and the others are left, be they ahead of it or behind.
func TestLeaveSpoilt(t *testing.T) {
	for kind := range kinds {
		fine := gets(sends(fresh(conf(kind, 2))[0], 3), 5)
		for _, c := range spoilt(kind) {
			table := []channel.Chan{fine, c, fine}
			leaves(t, table, 3, []channel.Chan{sends(fine), c, sends(fine)})
			leaves(t, table, 5, []channel.Chan{gets(fine), c, gets(fine)})
			leaves(t, table, 9, table)
			leaves(t, []channel.Chan{c, c}, 3, []channel.Chan{c, c})
		}
	}
}

// P19.3: Poison: that channel's level alone is raised, whoever waits, and whatever there is beside it.
func TestPoison(t *testing.T) {
	table := fresh(slices.Concat(four(0), four(2))...)
	table[1], table[3], table[7] = level(sends(table[1], 3), 5), level(gets(table[3], 5), 255), holds(table[7], 11, 12)
	for c := range table {
		for _, by := range []int{1, 2, 4, 5, 6, 20, 254, 255} {
			poisons(t, table, c, by, put(table, c, level(table[c], max(by, table[c].Level))), api.OK)
		}
		for _, by := range noStrengths {
			poisons(t, table, c, by, table, api.ErrRange)
		}
	}
}

// P19.3: Poison of channels that are not there, by strengths and by numbers that are none; and of such as may not be, told ahead of the strength.
func TestPoisonWrong(t *testing.T) {
	for _, table := range [][]channel.Chan{nil, fresh(conf(0, 0)), fresh(four(1)...), fresh(make([]api.Chan, 8)...), spoilt(3)} {
		for _, c := range noChans(len(table)) {
			for _, by := range []int{1, 255, 0, 256, math.MinInt, math.MaxInt} {
				poisons(t, table, c, by, table, api.ErrRange)
			}
		}
	}
	for kind := range kinds {
		for _, c := range spoilt(kind) {
			for _, by := range slices.Concat([]int{1, 5, 255}, noStrengths) {
				poisons(t, wide(wide()[0], c), 1, by, wide(wide()[0], c), api.ErrArg)
			}
			poisons(t, wide(c, c), 2, 5, put(wide(c, c), 2, level(wide()[2], 5)), api.OK)
		}
	}
}

// able are channels of a kind in which nothing may happen, Pass alone, Put alone, Take alone, and both.
func able(kind int) map[int][]channel.Chan {
	none, two := fresh(conf(kind, 0))[0], fresh(conf(kind, 2))[0]
	full := holds(two, 11, 12)
	return map[int][]channel.Chan{
		0:  {none, two, sends(none, 3), gets(none, 5), gets(two, 5), sends(full, 3), level(gets(sends(none, 3), 5), 11), level(gets(sends(holds(two, 11), 3), 5), 21)},
		1:  {gets(sends(none, 3), 5), gets(sends(none, 3), 3), level(gets(sends(none, 5), 3), 10)},
		2:  {sends(two, 3), gets(sends(two, 3), 5), level(sends(holds(two, 11), 3), 10)},
		3:  {gets(holds(two, 11), 5), gets(sends(full, 3), 5), level(gets(sends(holds(two, 11), 3), 5), 20)},
		23: {gets(sends(holds(two, 11), 3), 5), level(gets(sends(holds(two, 11), 5), 5), 10)},
	}
}

// told are the moves of a channel of that number, which may do that by the names of the function above.
func told(c, may int) []At {
	switch may {
	case 0:
		return nil
	case 23:
		return []At{{c, 2}, {c, 3}}
	}
	return []At{{c, may}}
}

// P19.4: Moves and Do: empty tables, and channels in which nothing may happen, one thing, and two, of each kind; by themselves, and two of them in either order: channel by channel, rising, and just what is told can be done.
func TestMoves(t *testing.T) {
	only(t, nil)
	for kind := range kinds {
		l := able(kind)
		for a, firsts := range l {
			for _, one := range firsts {
				only(t, []channel.Chan{one}, told(0, a)...)
			}
			for b, seconds := range l {
				moves(t, []channel.Chan{firsts[0], seconds[0]}, slices.Concat(told(0, a), told(1, b))...)
				last := seconds[len(seconds)-1]
				moves(t, []channel.Chan{last, spoilt(kind)[0], firsts[0], last}, slices.Concat(told(0, b), told(2, a), told(3, b))...)
			}
		}
		long := []channel.Chan{l[23][0], l[0][0], l[1][0], l[3][0], l[2][0], l[0][6], l[23][1], l[1][1]}
		only(t, long, At{0, 2}, At{0, 3}, At{2, 1}, At{3, 3}, At{4, 2}, At{6, 2}, At{6, 3}, At{7, 1})
	}
}

// P19.4: Hits: nobody, who waits at an end that is hit, at one that is not, and in several channels: rising.
func TestHits(t *testing.T) {
	hits(t, nil, 3)
	for kind := range kinds {
		c := gets(sends(fresh(conf(kind, 1))[0], 3), 5)
		for p := range lastProc + 1 {
			hits(t, []channel.Chan{c, level(c, 10)}, p)
		}
		table := []channel.Chan{level(c, 11), c, level(c, 20), level(c, 21), level(gets(sends(c, 5), 3), 11), level(c, 255), level(fresh(conf(kind, 1))[0], 255), level(gets(c, 3), 21)}
		hits(t, table, 3, 0, 2, 3, 5, 7)
		hits(t, table, 5, 3, 4, 5)
		for _, p := range slices.Concat([]int{0, 1, 2, 4, 6, 15}, noProcs) {
			hits(t, table, p)
		}
	}
	many := level(gets(sends(fresh(conf(3, 0))[0], 0, 7, 15), 1, 7, 14), 21)
	for p := range lastProc + 1 {
		if slices.Contains([]int{0, 1, 7, 14, 15}, p) {
			hits(t, []channel.Chan{many, many}, p, 0, 1)
		} else {
			hits(t, []channel.Chan{many, many}, p)
		}
	}
}

// P19.4: Do: each of the moves, in each channel of a table: what happened, and that nothing else in the table has.
func TestDo(t *testing.T) {
	for kind := range kinds {
		none, two := fresh(conf(kind, 0))[0], fresh(conf(kind, 2))[0]
		pass, half := gets(sends(none, 3), 5), gets(sends(holds(two, 11), 3), 5)
		table := []channel.Chan{half, pass, none, half, two, pass, half}
		for _, c := range []int{0, 3, 6} {
			does(t, table, At{c, channel.Put}, put(table, c, gets(holds(two, 11, 103), 5)), channel.Move{From: 3, To: -1, Val: 103}, api.OK)
			does(t, table, At{c, channel.Take}, put(table, c, sends(two, 3)), channel.Move{From: -1, To: 5, Val: 11}, api.OK)
		}
		for _, c := range []int{1, 5} {
			does(t, table, At{c, channel.Pass}, put(table, c, none), channel.Move{From: 3, To: 5, Val: 103}, api.OK)
		}
		only(t, table, At{0, 2}, At{0, 3}, At{1, 1}, At{3, 2}, At{3, 3}, At{5, 1}, At{6, 2}, At{6, 3})
	}
}

// P19.4: Moves, Hits and Do at channels that may not be, of each kind: nothing is told, and nothing may be done; beside them all goes on.
func TestDoSpoilt(t *testing.T) {
	for kind := range kinds {
		fine := gets(sends(fresh(conf(kind, 0))[0], 3), 5)
		for _, c := range spoilt(kind) {
			only(t, []channel.Chan{c})
			only(t, []channel.Chan{c, fine, c}, At{1, 1})
			table := []channel.Chan{c, level(fine, 255), c}
			hits(t, table, 3, 1)
			hits(t, table, 5, 1)
			only(t, table)
			if c.Level == 0 { // else the level itself may be what spoils it
				hits(t, []channel.Chan{level(c, 255), c}, 3)
				hits(t, []channel.Chan{c, level(c, 255)}, 5)
			}
		}
	}
}

// P19.2 to P19.4: the answer of one call and the table that it was handed may both be used: neither is written to by calls of the other one.
func TestAnswersOfTheirOwn(t *testing.T) {
	first := fresh(conf(3, 0), conf(3, 3), conf(3, 3))
	first[0], first[1] = gets(sends(first[0], 3, 4), 5, 6), gets(sends(holds(first[1], 11, 12), 3, 4, 7), 5, 6, 0)
	table, check := kept(t, first)
	var got, want [][]channel.Chan
	add := func(one []channel.Chan) []channel.Chan {
		got, want = append(got, one), append(want, copied(one))
		return one
	}
	ok := func(e api.Errno) {
		t.Helper()
		if e != api.OK {
			t.Fatal(e)
		}
	}
	from := [][]channel.Chan{add(table)}
	for range 2 {
		for _, one := range from {
			for p := range 3 {
				a, _, e := Offer(one, p+8+len(got)%2, guards(in(0), out(1, p), in(1), in(2), out(2, 9)), false)
				if e == api.OK {
					from = append(from, add(a))
				}
				from = append(from, add(Leave(one, p+3)))
			}
			b, e := Poison(one, 2, 1+len(got)%7)
			ok(e)
			from = append(from, add(b))
			for _, a := range Moves(one) {
				c, _, e := Do(one, a)
				ok(e)
				from = append(from, add(c))
			}
		}
	}
	for i := range got {
		if !same(got[i], want[i]) {
			t.Errorf("table %d: %v; it was %v", i, got[i], want[i])
		}
	}
	check("some call")
}

// P19.2 to P19.4: tables by chance, some of their channels such as may not be: all calls held against second readings of the chapter.
func TestChance(t *testing.T) {
	r := rand.New(rand.NewSource(19))
	for range 3000 {
		table := fresh(make([]api.Chan, r.Intn(mostChans+1))...)
		for i := range table {
			table[i] = byChance(r)
		}
		n := r.Intn(lastLevel+3) - 1
		if r.Intn(4) == 0 {
			n = []int{low - 1, low, high, high + 1, math.MinInt, math.MaxInt}[r.Intn(6)]
		}
		var l []api.Guard
		for range r.Intn(8) {
			c := r.Intn(len(table) + 1)
			if r.Intn(30) == 0 {
				c = []int{-1, len(table), math.MinInt, math.MaxInt}[r.Intn(4)]
			}
			l = append(l, api.Guard{Kind: []int{1, 2, 1, 2, 1, 2, 3, 4, 5, 6, 0, 7}[r.Intn(12)], Obj: c, Val: r.Intn(100) + n*r.Intn(2), Reg: r.Intn(8), No: r.Intn(7)})
		}
		every(t, table, r.Intn(lastProc+3)-1, n, l)
	}
}

// byChance is a channel by chance, which may be, or now and then may not.
func byChance(r *rand.Rand) channel.Chan {
	kind, room := r.Intn(4), r.Intn(9)
	if r.Intn(12) == 0 {
		l := spoilt(kind)
		return l[r.Intn(len(l))]
	}
	c := level(fresh(conf(kind, room))[0], r.Intn(30)*r.Intn(2))
	many := func(shared bool) int {
		if shared {
			return r.Intn(6)
		}
		return r.Intn(2)
	}
	c = gets(sends(c, r.Perm(lastProc + 1)[:many(kinds[kind].out)]...), r.Perm(lastProc + 1)[:many(kinds[kind].in)]...)
	return holds(c, r.Perm(8)[:r.Intn(room+1)]...)
}

// offer is who waits at an end, and with which word.
type offer struct{ p, v int }

// run is a table, and what a long run of calls has told of it: who waits at which end, in the order of coming.
type run struct {
	table   []channel.Chan
	out, in [][]offer
	put     [][]int // the values that each channel holds
	counts
}

// counts are how many offers of more than one guard were taken, how many were refused behind their first guard, and how many moves have happened.
type counts struct{ taken, refused, done int }

// start is a run of a new table by chance.
func start(t *testing.T, by *rand.Rand) *run {
	t.Helper()
	var l []api.Chan
	for range 1 + by.Intn(mostChans) {
		l = append(l, api.Chan{Kind: by.Intn(4), Room: by.Intn(4), In: by.Intn(256), Out: by.Intn(256)})
	}
	table, at, e := New(l)
	if e != api.OK || at != 0 {
		t.Fatalf("New(%v): %d, %d", l, at, e)
	}
	return &run{table: table, out: make([][]offer, len(l)), in: make([][]offer, len(l)), put: make([][]int, len(l))}
}

// step does one thing with the table, by chance.
func (r *run) step(t *testing.T, by *rand.Rand) {
	t.Helper()
	p := by.Intn(lastProc + 1)
	switch n := by.Intn(100); {
	case n < 45:
		r.offer(t, p, r.some(by), by.Intn(2) == 0)
	case n < 55:
		r.table = Leave(r.table, p)
		r.gone(p)
	case n < 56:
		c, by := by.Intn(len(r.table)), 1+by.Intn(lastLevel)>>by.Intn(8)
		to, e := Poison(r.table, c, by)
		if e != api.OK || to[c].Level != max(by, r.table[c].Level) {
			t.Fatalf("Poison(%v, %d, %d): %v, %d", r.table, c, by, to, e)
		}
		r.table = to
	default:
		r.do(t, At{by.Intn(len(r.table)), 1 + by.Intn(3)})
		for _, a := range Moves(r.table)[:min(1, len(Moves(r.table)))] {
			r.do(t, a)
		}
	}
	r.look(t)
}

// some are guards by chance.
func (r *run) some(by *rand.Rand) []api.Guard {
	var l []api.Guard
	for no := range by.Intn(4) {
		l = append(l, api.Guard{Kind: 1 + by.Intn(2), Obj: by.Intn(len(r.table)), Val: by.Intn(1000), No: no})
		if by.Intn(8) == 0 {
			l[no] = other(3+by.Intn(4), by.Intn(9))
		}
		if by.Intn(50) == 0 {
			l[no].Obj = len(r.table)
		}
	}
	return l
}

// offer has one offer guards that are taken, or not: which, is told by the order of coming, and by the kinds, alone.
func (r *run) offer(t *testing.T, p int, l []api.Guard, alting bool) {
	t.Helper()
	in, out := ownLines(r.in), ownLines(r.out)
	want, place := api.OK, 0
	for i, g := range l {
		if g.Kind > 2 || want != api.OK {
			continue
		}
		place = i
		if g.Obj == len(r.table) {
			want = api.ErrRange
			continue
		}
		lines, shared := in, kinds[r.table[g.Obj].Conf.Kind].in
		if g.Kind == 2 {
			lines, shared = out, kinds[r.table[g.Obj].Conf.Kind].out
		}
		switch line := lines[g.Obj]; {
		case alting && shared:
			want = api.ErrKind
		case slices.ContainsFunc(line, func(o offer) bool { return o.p == p }):
			want = api.ErrThere
		case len(line) > 0 && !shared:
			want = api.ErrBusy
		default:
			lines[g.Obj] = append(line, offer{p, g.Val})
		}
	}
	if place > 0 && want == api.OK {
		r.taken++
	} else if place > 0 {
		r.refused++
	}
	if want == api.OK {
		place, r.in, r.out = 0, in, out
	}
	to, at, e := Offer(r.table, p, l, alting)
	if e != want || at != place || e != api.OK && !same(to, r.table) {
		t.Fatalf("Offer(%v, %d, %v, %v): %v, %d, %d; want %d, %d", r.table, p, l, alting, to, at, e, place, want)
	}
	r.table = to
}

// ownLines are lines in memory of their own.
func ownLines(l [][]offer) [][]offer {
	var own [][]offer
	for _, one := range l {
		own = append(own, slices.Clone(one))
	}
	return own
}

// gone tells that one waits nowhere any more.
func (r *run) gone(p int) {
	for c := range r.table {
		r.gets(p, c)
	}
}

// gets tells that one does not wait in a channel any more.
func (r *run) gets(p, c int) {
	of := func(o offer) bool { return o.p == p }
	r.out[c], r.in[c] = slices.DeleteFunc(r.out[c], of), slices.DeleteFunc(r.in[c], of)
}

// may tells whether a move may happen, by what the run has told alone.
func (r *run) may(a At) bool {
	if a.Chan < 0 || a.Chan >= len(r.table) {
		return false
	}
	c := r.table[a.Chan]
	sender, receiver := len(r.out[a.Chan]) > 0 && c.Level <= c.Conf.Out, len(r.in[a.Chan]) > 0 && c.Level <= c.Conf.In
	held, room := len(r.put[a.Chan]), c.Conf.Room
	return a.Move == 1 && room == 0 && sender && receiver || a.Move == 2 && held < room && sender || a.Move == 3 && held > 0 && receiver
}

// do does a move that may happen, or may not.
func (r *run) do(t *testing.T, a At) {
	t.Helper()
	to, m, e := Do(r.table, a)
	if !r.may(a) {
		if e != api.ErrState || m != (channel.Move{}) || !same(to, r.table) {
			t.Fatalf("Do(%v, %v): %v, %v, %d", r.table, a, to, m, e)
		}
		return
	}
	want := channel.Move{From: -1, To: -1}
	if a.Move != 3 {
		want.From, want.Val = r.out[a.Chan][0].p, r.out[a.Chan][0].v
		r.put[a.Chan] = append(r.put[a.Chan], want.Val)
	}
	if a.Move != 2 {
		want.To, want.Val = r.in[a.Chan][0].p, r.put[a.Chan][0]
		r.put[a.Chan] = r.put[a.Chan][1:]
	}
	if m != want || e != api.OK {
		t.Fatalf("Do(%v, %v): %v, %d; want %v", r.table, a, m, e, want)
	}
	r.gets(m.From, a.Chan)
	r.gets(m.To, a.Chan)
	r.table, r.done = to, r.done+1
}

// look fails, unless the table has just those waiting that came and did not go, and holds what was put and not taken; and unless Moves tells just what can be done, and Hits who is hit.
func (r *run) look(t *testing.T) {
	t.Helper()
	var hit [lastProc + 1][]int
	for i, c := range r.table {
		want := c
		want.Values, want.Out.Who, want.Vals, want.In.Who = r.put[i], nil, nil, nil
		for _, o := range r.out[i] {
			want.Out.Who, want.Vals = append(want.Out.Who, o.p), append(want.Vals, o.v)
		}
		for _, o := range r.in[i] {
			want.In.Who = append(want.In.Who, o.p)
		}
		if !sameChan(c, want) || !channel.Fine(c) {
			t.Fatalf("channel %d: %v; want %v", i, c, want)
		}
		for p := range hit {
			if slices.Contains(c.Out.Who, p) && c.Level > c.Conf.Out || slices.Contains(c.In.Who, p) && c.Level > c.Conf.In {
				hit[p] = append(hit[p], i)
			}
		}
	}
	for p, want := range hit {
		if got := Hits(r.table, p); !slices.Equal(got, want) {
			t.Fatalf("Hits(%v, %d): %v; want %v", r.table, p, got, want)
		}
	}
	told := Moves(r.table)
	for c := -1; c <= len(r.table); c++ {
		for move := range 5 {
			a := At{c, move}
			_, _, e := Do(r.table, a)
			if is := slices.Contains(told, a); is != (e == api.OK) || is != r.may(a) {
				t.Fatalf("Moves(%v): %v; Do of %v: %d", r.table, told, a, e)
			}
		}
	}
}

// P19.5: long runs by chance: who leaves waits nowhere, offers that are refused change nothing, and a move is one of Moves just if it can be done. And what was there ahead of each step stays as it was.
func TestRuns(t *testing.T) {
	by := rand.New(rand.NewSource(195))
	var all counts
	for range 60 {
		r := start(t, by)
		var before, were [][]channel.Chan
		for range 200 {
			before, were = append(before, r.table), append(were, copied(r.table))
			r.step(t, by)
		}
		for i := range before {
			if !same(before[i], were[i]) {
				t.Fatalf("step %d: %v; it was %v", i, before[i], were[i])
			}
		}
		for p := range lastProc + 1 {
			r.table = Leave(r.table, p)
			r.gone(p)
			r.look(t)
			if waiting(r.table, p) {
				t.Fatalf("%d waits yet: %v", p, r.table)
			}
		}
		if yet := Moves(r.table); len(yet) != 0 {
			t.Fatalf("nobody waits, and yet may happen: %v", yet)
		}
		all = counts{all.taken + r.taken, all.refused + r.refused, all.done + r.done}
	}
	if all.taken < 500 || all.refused < 500 || all.done < 1000 {
		t.Errorf("too little happened: %v", all)
	}
}
