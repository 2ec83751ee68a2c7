package bartab

import (
	"math"
	"math/rand"
	"slices"
	"testing"

	"becket/api"
	"becket/barrier"
	"becket/bitset"
	"becket/roll"
)

// What the document tells: how many barriers there are at most, the last process, and the last limit.
const (
	mostBars = 8
	lastProc = 15
	final    = 65535
)

// both are what alting may be.
var both = []bool{false, true}

// far are numbers that are none of anything that a table has: the ends of int, and such as lose their height, or their sign, when they are cut to fewer bits.
var far = []int{math.MinInt, math.MinInt + 1, math.MinInt + 3, math.MinInt + 5, -1 << 62, -1 << 40, -1<<32 + 3, -1 << 31, 1 << 31, 1 << 32, 1<<32 + 1, 1<<32 + 3, 1<<32 + 5, 1 << 40, 1 << 62, math.MaxInt - 1, math.MaxInt}

// Numbers that are no processes, and no limits; and kinds of guards that are none of a barrier.
var (
	noProcs    = slices.Concat(far, []int{-65536, -256, -251, -64, -17, -16, -15, -5, -3, -2, -1, 16, 17, 19, 31, 32, 63, 64, 67, 128, 255, 256, 259, 65536, 65539})
	noLimits   = slices.Concat(far, []int{-65537, -65536, -65535, -256, -9, -2, -1, 0, 65536, 65537, 65545, 131071, 131072})
	otherKinds = slices.Concat(far, []int{1, 2, 4, 5, 6, 0, 7, 8, 9, -1, -2, -3, -4, 11, 19, 35, 67, 131, 255, 256, 258, 259, 260, -253, 65539, -65533})
)

// noBars are numbers of no barrier of a table of so many.
func noBars(many int) []int {
	l := slices.Concat(far, []int{-65536, -256, -255, -64, -9, -8, -7, -2, -1})
	for _, n := range []int{many, many + 1, many + 8, 8, 9, 16, 17, 64, 255, 256, 257, 65536, 65537} {
		if n >= many {
			l = append(l, n)
		}
	}
	return l
}

// set has these ids: made bit by bit.
func set(ids []int) bitset.Set {
	var s bitset.Set
	for _, id := range ids {
		s[id>>6] |= 1 << (id & 63)
	}
	return s
}

// procs are these processes.
func procs(l ...int) []int { return l }

// everybody are the numbers of all processes but these.
func everybody(but ...int) []int {
	var l []int
	for p := range lastProc + 1 {
		if !slices.Contains(but, p) {
			l = append(l, p)
		}
	}
	return l
}

// with is a barrier on which these are enrolled, and at which those wait.
func with(b barrier.Bar, members, at []int) barrier.Bar {
	b.Roll = roll.Roll{Members: set(members), At: set(at)}
	return b
}

// moved is a barrier of another phase.
func moved(b barrier.Bar, phase int) barrier.Bar {
	b.Phase = phase
	return b
}

// alts is a barrier that is for alts, or is not.
func alts(b barrier.Bar, alting bool) barrier.Bar {
	b.Conf.Alting = alting
	return b
}

// mixed is a table of so many barriers, each of which is another one: all are for alts but each third one; 3 and 5 are enrolled on all, and 5 waits.
func mixed(many int) []barrier.Bar {
	var table []barrier.Bar
	for i := range many {
		b := barrier.Bar{Conf: api.Barrier{Alting: i%3 != 2, Limit: 20 + 2*i}, Phase: i}
		table = append(table, with(b, procs(3, 5), procs(5)))
	}
	return table
}

// sizes are how many barriers tables have: none, one, as many as there may be, and some more, as a table is a list of any length.
var sizes = []int{0, 1, 2, 3, 5, 7, 8, 9, 12, 70}

// confs are what so many barriers are to be, each of which is another one.
func confs(many int) []api.Barrier {
	var l []api.Barrier
	for i := range many {
		l = append(l, api.Barrier{Alting: i%3 == 1, Limit: []int{1, 2, 65535, 255, 256, 65534, 7, 32768}[i%8]})
	}
	return l
}

// fresh is a table of such barriers, on which nobody is enrolled.
func fresh(l ...api.Barrier) []barrier.Bar {
	var table []barrier.Bar
	for _, c := range l {
		table = append(table, barrier.Bar{Conf: c})
	}
	return table
}

// put is a list with another thing at a place.
func put[T any](l []T, at int, x T) []T {
	own := slices.Clone(l)
	own[at] = x
	return own
}

// on is a guard of a barrier; what it has beside that is nothing to a table.
func on(b int) api.Guard { return api.Guard{Kind: api.Bar, Obj: b, Val: 1 << 40, Reg: -9, No: 77} }

// other is a guard of no barrier.
func other(kind, n int) api.Guard { return api.Guard{Kind: kind, Obj: n, Val: n, Reg: n, No: n} }

// guards is a list of guards.
func guards(l ...api.Guard) []api.Guard { return l }

// ons are guards of these barriers.
func ons(l ...int) []api.Guard {
	var out []api.Guard
	for _, b := range l {
		out = append(out, on(b))
	}
	return out
}

// amid is a list of guards with guards of no barrier ahead of each, and behind.
func amid(l []api.Guard) []api.Guard {
	out := guards(other(api.Skip, 0))
	for i, g := range l {
		out = append(out, other(otherKinds[i%len(otherKinds)], i), g, other(api.Time, -1))
	}
	return out
}

// kept is a list that lies within longer memory, and what fails, unless all of that is as it was.
func kept[T comparable](t *testing.T, l []T, odd T) ([]T, func()) {
	t.Helper()
	memory := slices.Concat([]T{odd}, l, []T{odd, odd, odd})
	before := slices.Clone(memory)
	return memory[1 : 1+len(l)], func() {
		t.Helper()
		if !slices.Equal(memory, before) {
			t.Errorf("it has written to %v: %v", before, memory)
		}
	}
}

// keptTable is kept of a table; what lies beside it could be fired, and has 3 and 5 enrolled.
func keptTable(t *testing.T, table []barrier.Bar) ([]barrier.Bar, func()) {
	t.Helper()
	return kept(t, table, with(barrier.Bar{Conf: api.Barrier{Alting: true, Limit: 71}}, procs(3, 5), procs(3, 5)))
}

// news fails, unless New answers so.
func news(t *testing.T, l []api.Barrier, want []barrier.Bar, at int, err api.Errno) {
	t.Helper()
	own, check := kept(t, l, api.Barrier{Limit: -71})
	for range 2 {
		if got, place, e := New(own); !slices.Equal(got, want) || place != at || e != err {
			t.Errorf("New(%v): %v, %d, %d; want %v, %d, %d", l, got, place, e, want, at, err)
		}
	}
	check()
}

// enrols fails, unless Enrol answers so.
func enrols(t *testing.T, table []barrier.Bar, b, p int, want []barrier.Bar, err api.Errno) {
	t.Helper()
	own, check := keptTable(t, table)
	for range 2 {
		if got, e := Enrol(own, b, p); !slices.Equal(got, want) || e != err {
			t.Errorf("Enrol(%v, %d, %d): %v, %d; want %v, %d", table, b, p, got, e, want, err)
		}
	}
	check()
}

// resigns fails, unless Resign answers so.
func resigns(t *testing.T, table []barrier.Bar, b, p int, want []barrier.Bar, err api.Errno) {
	t.Helper()
	own, check := keptTable(t, table)
	for range 2 {
		if got, e := Resign(own, b, p); !slices.Equal(got, want) || e != err {
			t.Errorf("Resign(%v, %d, %d): %v, %d; want %v, %d", table, b, p, got, e, want, err)
		}
	}
	check()
}

// offers fails, unless Offer answers so.
func offers(t *testing.T, table []barrier.Bar, p int, l []api.Guard, alting bool, want []barrier.Bar, at int, err api.Errno) {
	t.Helper()
	own, check := keptTable(t, table)
	list, checkList := kept(t, l, on(0))
	for range 2 {
		if got, place, e := Offer(own, p, list, alting); !slices.Equal(got, want) || place != at || e != err {
			t.Errorf("Offer(%v, %d, %v, %v): %v, %d, %d; want %v, %d, %d", table, p, l, alting, got, place, e, want, at, err)
		}
	}
	check()
	checkList()
}

// refuses fails, unless Offer answers that error at that place, and the table as it was.
func refuses(t *testing.T, table []barrier.Bar, p int, l []api.Guard, alting bool, at int, err api.Errno) {
	t.Helper()
	offers(t, table, p, l, alting, table, at, err)
}

// leaves fails, unless Leave answers so.
func leaves(t *testing.T, table []barrier.Bar, p int, want []barrier.Bar) {
	t.Helper()
	own, check := keptTable(t, table)
	for range 2 {
		if got := Leave(own, p); !slices.Equal(got, want) {
			t.Errorf("Leave(%v, %d): %v; want %v", table, p, got, want)
		}
	}
	check()
}

// quits fails, unless Quit answers so.
func quits(t *testing.T, table []barrier.Bar, p int, want []barrier.Bar) {
	t.Helper()
	own, check := keptTable(t, table)
	for range 2 {
		if got := Quit(own, p); !slices.Equal(got, want) {
			t.Errorf("Quit(%v, %d): %v; want %v", table, p, got, want)
		}
	}
	check()
}

// readies fails, unless Ready answers so, each time in new memory.
func readies(t *testing.T, table []barrier.Bar, want ...int) {
	t.Helper()
	own, check := keptTable(t, table)
	for range 2 {
		got := Ready(own)
		if !slices.Equal(got, want) {
			t.Errorf("Ready(%v): %v; want %v", table, got, want)
		}
		spoil(got)
	}
	check()
}

// fires fails, unless Fire answers so, each time in new memory.
func fires(t *testing.T, table []barrier.Bar, b int, want []barrier.Bar, who []int, err api.Errno) {
	t.Helper()
	own, check := keptTable(t, table)
	for range 2 {
		got, l, e := Fire(own, b)
		if !slices.Equal(got, want) || !slices.Equal(l, who) || e != err {
			t.Errorf("Fire(%v, %d): %v, %v, %d; want %v, %v, %d", table, b, got, l, e, want, who, err)
		}
		spoil(l)
	}
	check()
}

// spoil writes to a list, and behind it.
func spoil(l []int) {
	for i := range l {
		l[i] = -9
	}
	_ = append(l, -9, -9)
}

// unfires fails, unless Fire answers that error, nobody, and the table as it was.
func unfires(t *testing.T, table []barrier.Bar, b int, err api.Errno) {
	t.Helper()
	fires(t, table, b, table, nil, err)
}

// only fails, unless Ready tells these barriers, and just these can be fired.
func only(t *testing.T, table []barrier.Bar, want ...int) {
	t.Helper()
	readies(t, table, want...)
	for b, at := range table {
		_, _, e := Fire(slices.Clone(table), b)
		switch {
		case slices.Contains(want, b) && e != api.OK:
			t.Errorf("Fire(%v, %d): %d", table, b, e)
		case !slices.Contains(want, b) && barrier.Fine(at):
			unfires(t, table, b, api.ErrState)
		case !slices.Contains(want, b):
			unfires(t, table, b, api.ErrArg)
		}
	}
	for _, b := range []int{-1, len(table), math.MinInt, math.MaxInt} {
		unfires(t, table, b, api.ErrRange)
	}
}

// spoilt are barriers that may not be, each because of one thing, by what they are to be, by their roll, by their phase; and some because of more. In each 3 and 5 are enrolled, and wait, but for where the roll is what spoils it.
func spoilt() []barrier.Bar {
	fine := with(barrier.Bar{Conf: api.Barrier{Limit: 9}, Phase: 4}, procs(3, 5), procs(3, 5))
	var l []barrier.Bar
	for _, alting := range both {
		b := alts(fine, alting)
		for _, limit := range noLimits {
			of := b
			of.Conf.Limit = limit
			l = append(l, of, moved(of, 0))
		}
		l = append(l, with(b, procs(3, 5, 16), procs(3, 5)), with(b, procs(3, 5, 16), procs(3, 5, 16)), with(b, procs(3, 5, 255), procs(3, 5, 255)), with(b, procs(3, 5, 64), nil))
		l = append(l, with(b, procs(3, 5), procs(3, 5, 9)), with(b, procs(5), procs(3, 5)), with(b, nil, procs(3)), with(b, procs(3, 5), procs(3, 5, 16)), with(b, nil, procs(200)))
		for _, phase := range slices.Concat(far, []int{-65536, -9, -1, 10, 11, 65535, 65536}) {
			l = append(l, moved(b, phase))
		}
		l = append(l, with(moved(b, 10), procs(3, 5), procs(3, 5, 9)), barrier.Bar{Conf: api.Barrier{Alting: alting}})
	}
	return l
}

// few are three barriers that may not be: by what it is to be, by its roll, by its phase.
func few() []barrier.Bar {
	fine := with(barrier.Bar{Conf: api.Barrier{Alting: true, Limit: 9}, Phase: 4}, procs(3, 5), procs(3, 5))
	of := fine
	of.Conf.Limit = 65536
	return []barrier.Bar{of, with(fine, procs(5), procs(3, 5)), moved(fine, 10)}
}

// offered is a second reading of what Offer answers.
func offered(table []barrier.Bar, p int, l []api.Guard, alting bool) ([]barrier.Bar, int, api.Errno) {
	to := slices.Clone(table)
	for i, g := range l {
		if g.Kind != 3 {
			continue
		}
		e := api.ErrRange
		for b := range to {
			if b == g.Obj {
				to[b], e = barrier.Offer(to[b], p, alting)
			}
		}
		if e != api.OK {
			return table, i, e
		}
	}
	return to, 0, api.OK
}

// every holds all calls of a table against what layer 22 tells of each of its barriers.
func every(t *testing.T, table []barrier.Bar, p int, l []api.Guard) {
	t.Helper()
	for _, alting := range both {
		want, at, e := offered(table, p, l, alting)
		offers(t, table, p, l, alting, want, at, e)
	}
	left, gone := slices.Clone(table), slices.Clone(table)
	var able []int
	for b, at := range table {
		to, e := barrier.Enrol(at, p)
		enrols(t, table, b, p, put(table, b, to), e)
		to, e = barrier.Resign(at, p)
		resigns(t, table, b, p, put(table, b, to), e)
		gone[b], left[b] = to, barrier.Withdraw(at, p)
		to, who, e := barrier.Fire(at)
		fires(t, table, b, put(table, b, to), who, e)
		if barrier.Ready(at) {
			able = append(able, b)
		}
	}
	leaves(t, table, p, left)
	quits(t, table, p, gone)
	readies(t, table, able...)
	for _, b := range []int{-1, len(table)} {
		nowhere(t, table, b, p)
	}
}

// nowhere fails, unless all calls by which a barrier is told answer that there is none of that number.
func nowhere(t *testing.T, table []barrier.Bar, b, p int) {
	t.Helper()
	enrols(t, table, b, p, table, api.ErrRange)
	resigns(t, table, b, p, table, api.ErrRange)
	unfires(t, table, b, api.ErrRange)
	for _, alting := range both {
		refuses(t, table, p, ons(b), alting, 0, api.ErrRange)
	}
}

// The chapter's example.
func TestExample(t *testing.T) {
	for _, alting := range both {
		conf := api.Barrier{Alting: alting, Limit: 2}
		empty := fresh(conf, conf)
		news(t, []api.Barrier{conf, conf}, empty, 0, api.OK)
		one := put(empty, 0, with(empty[0], procs(3), nil))
		enrols(t, empty, 0, 3, one, api.OK)
		two := put(one, 1, with(empty[1], procs(3), nil))
		enrols(t, one, 1, 3, two, api.OK)
		waits := []barrier.Bar{with(empty[0], procs(3), procs(3)), with(empty[1], procs(3), procs(3))}
		offers(t, two, 3, ons(0, 1), alting, waits, 0, api.OK)
		readies(t, waits, 0, 1)
		leaves(t, waits, 3, two)
		quits(t, waits, 3, empty)
	}
}

// The numbers of the errors that the chapter names.
func TestErrorNumbers(t *testing.T) {
	table := mixed(3)
	table[1].Phase = table[1].Conf.Limit
	for _, c := range []struct {
		got  func() api.Errno
		want int
	}{
		{func() api.Errno { _, _, e := New(confs(9)); return e }, 5},
		{func() api.Errno { _, _, e := New([]api.Barrier{{}}); return e }, 8},
		{func() api.Errno { _, e := Enrol(table, 3, 2); return e }, 8},
		{func() api.Errno { _, e := Enrol(few(), 0, 2); return e }, 1},
		{func() api.Errno { _, e := Enrol(table, 0, 3); return e }, 7},
		{func() api.Errno { _, e := Resign(table, 0, 2); return e }, 6},
		{func() api.Errno { _, _, e := Offer(table, 3, ons(2), true); return e }, 12},
		{func() api.Errno { _, _, e := Offer(table, 3, ons(1), true); return e }, 14},
		{func() api.Errno { _, _, e := Fire(table, 0); return e }, 13},
		{func() api.Errno { _, e := Enrol(table, 0, 2); return e }, 0},
	} {
		if e := c.got(); int(e) != c.want {
			t.Errorf("%d; want %d", e, c.want)
		}
	}
}

// P23.1: New of none, one, and more, up to as many as there may be: nobody is enrolled, nothing is ready.
func TestNew(t *testing.T) {
	news(t, nil, nil, 0, api.OK)
	news(t, []api.Barrier{}, nil, 0, api.OK)
	for many := range mostBars + 1 {
		l := confs(many)
		news(t, l, fresh(l...), 0, api.OK)
		table, _, _ := New(l)
		only(t, table)
		for p := range lastProc + 1 {
			leaves(t, table, p, table)
			quits(t, table, p, table)
			for b := range table {
				refuses(t, table, p, ons(b), false, 0, api.ErrNone)
			}
		}
		same := make([]api.Barrier, many)
		for i := range same {
			same[i] = api.Barrier{Alting: many%2 == 0, Limit: 3}
		}
		news(t, same, fresh(same...), 0, api.OK)
	}
}

// P23.1: New of lists of all lengths, with limits of all sorts at each place: those that may be, and the place and the error of those that may not.
func TestNewLimits(t *testing.T) {
	for many := 1; many <= mostBars; many++ {
		for at := range many {
			for _, alting := range both {
				for _, limit := range []int{1, 2, 127, 128, 255, 256, 32767, 32768, 65534, 65535} {
					l := put(confs(many), at, api.Barrier{Alting: alting, Limit: limit})
					news(t, l, fresh(l...), 0, api.OK)
				}
				for _, limit := range slices.Concat([]int{-1, 0, 65536}, noLimits) {
					news(t, put(confs(many), at, api.Barrier{Alting: alting, Limit: limit}), nil, at, api.ErrRange)
				}
			}
		}
	}
}

// P23.1: New with more than one that may not be: the place of the first one is told.
func TestNewFirst(t *testing.T) {
	for _, first := range []int{-1, 0, 65536, math.MinInt, math.MaxInt} {
		for _, second := range []int{-1, 0, 65536, math.MinInt, math.MaxInt} {
			for a := range mostBars {
				for b := a + 1; b < mostBars; b++ {
					l := put(put(confs(mostBars), a, api.Barrier{Limit: first}), b, api.Barrier{Alting: true, Limit: second})
					news(t, l, nil, a, api.ErrRange)
				}
			}
		}
	}
	for many := 1; many <= mostBars; many++ {
		news(t, make([]api.Barrier, many), nil, 0, api.ErrRange)
	}
}

// P23.1: New of more barriers than there may be: that is told ahead of any that may not be, wherever it is.
func TestNewMany(t *testing.T) {
	for _, many := range []int{9, 10, 11, 15, 16, 17, 64, 255, 256, 257, 264, 65535, 65536, 65544} {
		l := confs(many)
		news(t, l, nil, 8, api.ErrMany)
		for _, at := range []int{0, 1, 7, 8, many - 1} {
			for _, limit := range []int{-1, 0, 65536, math.MinInt, math.MaxInt} {
				news(t, put(l, at, api.Barrier{Limit: limit}), nil, 8, api.ErrMany)
			}
		}
		news(t, make([]api.Barrier, many), nil, 8, api.ErrMany)
	}
}

// P23.1: a table stays as it is, whatever is written to the list that it was made of; and tables that are made one after the other are none of one another's.
func TestNewKeeps(t *testing.T) {
	l := confs(5)
	first, _, _ := New(l)
	second, _, _ := New(l)
	clear(l)
	clear(second)
	if want := fresh(confs(5)...); !slices.Equal(first, want) {
		t.Errorf("%v; want %v", first, want)
	}
}

// P23.1: Enrol and Resign of each process, at each barrier of tables of all lengths: just that barrier is another one, and it is what it was, behind both.
func TestEnrol(t *testing.T) {
	for _, many := range sizes {
		table := mixed(many)
		for b, at := range table {
			for p := range lastProc + 1 {
				if p == 3 || p == 5 {
					enrols(t, table, b, p, table, api.ErrThere)
					continue
				}
				to := put(table, b, with(at, procs(3, 5, p), procs(5)))
				enrols(t, table, b, p, to, api.OK)
				enrols(t, to, b, p, to, api.ErrThere)
				resigns(t, to, b, p, table, api.OK)
				resigns(t, table, b, p, table, api.ErrNone)
			}
		}
	}
}

// P23.1: Resign of who does not wait, of who waits, of the only one, and of each of all.
func TestResign(t *testing.T) {
	for _, many := range sizes {
		table := mixed(many)
		for b, at := range table {
			resigns(t, table, b, 3, put(table, b, with(at, procs(5), procs(5))), api.OK)
			resigns(t, table, b, 5, put(table, b, with(at, procs(3), nil)), api.OK)
			alone := put(table, b, with(at, procs(9), procs(9)))
			resigns(t, alone, b, 9, put(table, b, with(at, nil, nil)), api.OK)
			full := put(table, b, with(at, everybody(), everybody(7)))
			for p := range lastProc + 1 {
				resigns(t, full, b, p, put(table, b, with(at, everybody(p), everybody(7, p))), api.OK)
			}
		}
	}
}

// P23.1: a barrier at its limit: processes are enrolled on it, and resign, as on any other one.
func TestEnrolAtLimit(t *testing.T) {
	table := mixed(mostBars)
	for b, at := range table {
		for _, limit := range []int{1, 20, final} {
			at.Conf.Limit, at.Phase = limit, limit
			spent := put(table, b, at)
			enrols(t, spent, b, 9, put(table, b, with(at, procs(3, 5, 9), procs(5))), api.OK)
			resigns(t, spent, b, 5, put(table, b, with(at, procs(3), nil)), api.OK)
			enrols(t, spent, b, 3, spent, api.ErrThere)
			resigns(t, spent, b, 9, spent, api.ErrNone)
		}
	}
}

// P23.1, P23.2: a barrier that is not there: just below and beyond the table's numbers, and far from them; whichever process, and whatever is in the table.
func TestNoBarrier(t *testing.T) {
	tables := [][]barrier.Bar{few()}
	for _, many := range sizes {
		tables = append(tables, mixed(many))
	}
	for _, table := range tables {
		for _, b := range noBars(len(table)) {
			for _, p := range []int{3, 5, 0, 15, -1, 16, math.MinInt, math.MaxInt} {
				nowhere(t, table, b, p)
			}
		}
	}
}

// P23.1, P23.2: a process that is none: at a barrier that may be.
func TestNoProcess(t *testing.T) {
	for _, many := range []int{1, 3, 8, 12} {
		table := mixed(many)
		for b, at := range table {
			full := put(table, b, with(at, everybody(), everybody(0)))
			for _, p := range noProcs {
				for _, one := range [][]barrier.Bar{table, full} {
					enrols(t, one, b, p, one, api.ErrRange)
					resigns(t, one, b, p, one, api.ErrRange)
					refuses(t, one, p, ons(b), false, 0, api.ErrRange)
					if at.Conf.Alting {
						refuses(t, one, p, ons(b), true, 0, api.ErrRange)
					}
				}
			}
		}
	}
}

// P23.1, P23.2: a barrier that may not be, at each place: nothing is done with it, whichever process it is; and beside it all goes on.
func TestSpoilt(t *testing.T) {
	for i, bad := range spoilt() {
		for at := range mostBars {
			table := put(mixed(mostBars), at, bad)
			for _, p := range []int{3, 5, 9, 0, 15, -1, 16, math.MinInt, math.MaxInt} {
				enrols(t, table, at, p, table, api.ErrArg)
				resigns(t, table, at, p, table, api.ErrArg)
				for _, alting := range both {
					refuses(t, table, p, ons(at), alting, 0, api.ErrArg)
				}
			}
			unfires(t, table, at, api.ErrArg)
			b := (at + 1 + i%7) % mostBars
			beside := table[b]
			enrols(t, table, b, 9, put(table, b, with(beside, procs(3, 5, 9), procs(5))), api.OK)
			resigns(t, table, b, 5, put(table, b, with(beside, procs(3), nil)), api.OK)
			full := with(beside, procs(3, 5), procs(3, 5))
			offers(t, table, 3, ons(b), false, put(table, b, full), 0, api.OK)
			fires(t, put(table, b, full), b, put(table, b, moved(with(beside, procs(3, 5), nil), beside.Phase+1)), procs(3, 5), api.OK)
			only(t, put(table, b, full), b)
		}
	}
}

// P23.2: Offer without guards, and with guards of no barrier alone: the table as it is, whichever process, and whatever is in the table.
func TestOfferNothing(t *testing.T) {
	for _, table := range [][]barrier.Bar{nil, mixed(1), mixed(8), mixed(9), few()} {
		for _, alting := range both {
			for _, p := range []int{math.MinInt, -1, 0, 3, 5, 15, 16, math.MaxInt} {
				offers(t, table, p, nil, alting, table, 0, api.OK)
				offers(t, table, p, []api.Guard{}, alting, table, 0, api.OK)
				for _, kind := range otherKinds {
					offers(t, table, p, guards(other(kind, 0)), alting, table, 0, api.OK)
					offers(t, table, p, guards(other(kind, -1), other(5, 99), other(kind, math.MaxInt), other(kind, math.MinInt)), alting, table, 0, api.OK)
				}
			}
		}
	}
}

// P23.2: Offer of one guard, of each barrier of tables of all lengths, by each process: it waits there alone, beside those that were there already.
func TestOfferOne(t *testing.T) {
	for _, many := range sizes {
		table := mixed(many)
		for b, at := range table {
			for _, alting := range both {
				if alting && !at.Conf.Alting {
					continue
				}
				offers(t, table, 3, ons(b), alting, put(table, b, with(at, procs(3, 5), procs(3, 5))), 0, api.OK)
				for p := range lastProc + 1 {
					all, last := put(table, b, with(at, everybody(), nil)), put(table, b, with(at, everybody(), everybody(p)))
					offers(t, all, p, ons(b), alting, put(table, b, with(at, everybody(), procs(p))), 0, api.OK)
					offers(t, last, p, amid(ons(b)), alting, put(table, b, with(at, everybody(), everybody())), 0, api.OK)
				}
			}
		}
	}
}

// P23.2: Offer of several guards: of each lot of barriers, rising and falling, with guards of no barrier between and without.
func TestOfferMany(t *testing.T) {
	table := mixed(mostBars)
	for i := range table {
		table[i].Conf.Alting = true
	}
	for lot := range 1 << mostBars {
		var l []int
		want := slices.Clone(table)
		for b := range table {
			if lot>>b&1 == 1 {
				l = append(l, b)
				want[b] = with(table[b], procs(3, 5), procs(3, 5))
			}
		}
		for _, alting := range both {
			offers(t, table, 3, ons(l...), alting, want, 0, api.OK)
			offers(t, table, 3, amid(ons(l...)), alting, want, 0, api.OK)
			slices.Reverse(l)
			offers(t, table, 3, ons(l...), alting, want, 0, api.OK)
			offers(t, table, 3, amid(ons(l...)), alting, want, 0, api.OK)
		}
	}
}

// P23.2: Offer of guards of all barriers of long tables, in all sorts of orders.
func TestOfferAll(t *testing.T) {
	r := rand.New(rand.NewSource(232))
	for _, many := range []int{1, 6, 7, 8, 9, 16, 17, 300, 2000} {
		table, want := mixed(many), mixed(many)
		for b := range want {
			want[b] = with(want[b], procs(3, 5), procs(3, 5))
		}
		l := ons(r.Perm(many)...)
		offers(t, table, 3, l, false, want, 0, api.OK)
		offers(t, table, 3, amid(l), false, want, 0, api.OK)
		refuses(t, table, 3, slices.Concat(l, l[:1]), false, many, api.ErrThere)
		leaves(t, want, 5, fewer(want, procs(3)))
		refuses(t, fewer(want, procs(5)), 5, l, false, 0, api.ErrThere)
	}
}

// fewer is a table with just these waiting at each barrier.
func fewer(table []barrier.Bar, at []int) []barrier.Bar {
	own := slices.Clone(table)
	for b := range own {
		own[b].Roll.At = set(at)
	}
	return own
}

// P23.2: a guard that is offered twice, at once and one offer behind the other: the second one is there already.
func TestOfferTwice(t *testing.T) {
	for _, many := range []int{2, 8, 9} {
		table := mixed(many)
		for b := range table {
			beside := (b + 1) % many
			for _, alting := range both {
				if alting && !(table[b].Conf.Alting && table[beside].Conf.Alting) {
					continue
				}
				refuses(t, table, 3, ons(b, b), alting, 1, api.ErrThere)
				refuses(t, table, 3, ons(b, b, b, beside), alting, 1, api.ErrThere)
				refuses(t, table, 3, ons(b, beside, b, beside), alting, 2, api.ErrThere)
				refuses(t, table, 3, guards(other(1, b), on(b), other(5, 0), on(beside), other(4, b), other(2, b), on(b)), alting, 6, api.ErrThere)
				once, _, _ := Offer(table, 3, ons(b), alting)
				refuses(t, once, 3, ons(b), alting, 0, api.ErrThere)
				refuses(t, once, 3, ons(beside, b), alting, 1, api.ErrThere)
				refuses(t, once, 3, ons(b, beside), alting, 0, api.ErrThere)
			}
		}
	}
}

// wide is a table with that barrier at a place, and with others at which 3 may wait, by an alt and else.
func wide(b barrier.Bar, at int) []barrier.Bar {
	table := mixed(mostBars)
	for i := range table {
		table[i].Conf.Alting = true
		table[i] = with(table[i], everybody(), procs(5))
	}
	table[at] = b
	return table
}

// everywhere fails, unless the guard of the barrier at that place of a wide table is refused by that error, be it the only guard, the first one, one in the middle, or the last one; and none of the guards ahead of it has one wait.
func everywhere(t *testing.T, table []barrier.Bar, at, p int, alting bool, err api.Errno) {
	t.Helper()
	refuses(t, table, p, ons(at), alting, 0, err)
	if p < 0 || p > lastProc || p == 5 {
		return // or the other guards would be refused as well
	}
	var fine []int
	for b := range table {
		if b != at {
			fine = append(fine, b)
		}
	}
	for place := range len(fine) + 1 {
		l := ons(slices.Insert(slices.Clone(fine), place, at)...)
		refuses(t, table, p, l, alting, place, err)
		refuses(t, table, p, amid(l), alting, 3*place+2, err)
		refuses(t, table, p, slices.Concat(l, ons(at, -1, 8)), alting, place, err)
	}
}

// P23.2: Offer with alting true and false, at barriers that are for that, and at such as are not: refused just where one alts and it is not for that.
func TestOfferAlting(t *testing.T) {
	fine := with(barrier.Bar{Conf: api.Barrier{Limit: 9}, Phase: 4}, procs(2, 3), procs(2))
	for at := range mostBars {
		for _, is := range both {
			for _, alting := range both {
				table := wide(alts(fine, is), at)
				if alting && !is {
					everywhere(t, table, at, 3, alting, api.ErrKind)
					continue
				}
				offers(t, table, 3, ons(at), alting, put(table, at, with(table[at], procs(2, 3), procs(2, 3))), 0, api.OK)
			}
		}
	}
}

// P23.2: Offer at barriers whose phase is their limit, and at such as have one phase left: which guard's place is told.
func TestOfferLimit(t *testing.T) {
	for _, limit := range []int{1, 2, 255, 256, 65534, final} {
		fine := with(barrier.Bar{Conf: api.Barrier{Limit: limit}}, procs(2, 3), procs(2))
		for at := range mostBars {
			for _, is := range both {
				spent, last := wide(alts(moved(fine, limit), is), at), wide(alts(moved(fine, limit-1), is), at)
				everywhere(t, spent, at, 3, false, api.ErrLimit)
				offers(t, last, 3, ons(at), false, put(last, at, with(last[at], procs(2, 3), procs(2, 3))), 0, api.OK)
				if is {
					everywhere(t, spent, at, 3, true, api.ErrLimit)
					offers(t, last, 3, ons(at), true, put(last, at, with(last[at], procs(2, 3), procs(2, 3))), 0, api.OK)
				}
			}
		}
	}
}

// P23.2: of several errors of one guard the one that is named first: one thing after the other is put right. At barriers that are not for alts the error is another one where nobody alts.
func TestOfferOrder(t *testing.T) {
	plain := barrier.Bar{Conf: api.Barrier{Limit: 9}, Phase: 9}
	is := alts(plain, true)
	in := with(is, procs(3), procs(3))
	for at := range mostBars {
		for _, c := range []struct {
			b            barrier.Bar
			p            int
			err, without api.Errno
		}{
			{moved(plain, 10), 16, api.ErrArg, api.ErrArg}, {moved(plain, 10), 3, api.ErrArg, api.ErrArg},
			{plain, 16, api.ErrKind, api.ErrLimit}, {plain, 3, api.ErrKind, api.ErrLimit}, {alts(in, false), 3, api.ErrKind, api.ErrLimit},
			{moved(plain, 8), -1, api.ErrKind, api.ErrRange}, {moved(plain, 8), 3, api.ErrKind, api.ErrNone}, {alts(moved(in, 8), false), 3, api.ErrKind, api.ErrThere},
			{is, 16, api.ErrLimit, api.ErrLimit}, {is, 3, api.ErrLimit, api.ErrLimit}, {in, 3, api.ErrLimit, api.ErrLimit},
			{moved(is, 8), 16, api.ErrRange, api.ErrRange}, {moved(is, 8), 3, api.ErrNone, api.ErrNone}, {moved(in, 8), 3, api.ErrThere, api.ErrThere},
		} {
			everywhere(t, wide(c.b, at), at, c.p, true, c.err)
			everywhere(t, wide(c.b, at), at, c.p, false, c.without)
		}
	}
}

// P23.2: Offer with more than one guard that is refused: the first one's place and error are told, and nothing is done.
func TestOfferFirst(t *testing.T) {
	table := wide(few()[1], 0)
	table[1].Conf.Alting = false
	table[2].Phase = table[2].Conf.Limit
	table[3] = with(table[3], procs(4, 5), procs(5))
	table[4] = with(table[4], procs(3, 5), procs(3))
	wrong := []struct {
		b int
		e api.Errno
	}{{8, api.ErrRange}, {-1, api.ErrRange}, {math.MaxInt, api.ErrRange}, {0, api.ErrArg}, {1, api.ErrKind}, {2, api.ErrLimit}, {3, api.ErrNone}, {4, api.ErrThere}}
	for _, a := range wrong {
		for _, b := range wrong {
			refuses(t, table, 3, ons(a.b, b.b), true, 0, a.e)
			refuses(t, table, 3, ons(6, a.b, 7, b.b), true, 1, a.e)
			refuses(t, table, 3, ons(6, 7, a.b, b.b, 5), true, 2, a.e)
			refuses(t, table, 3, ons(6, 7, 5, 6, a.b, b.b), true, 3, api.ErrThere)
			refuses(t, table, 3, guards(on(6), other(5, 0), other(1, 8), on(a.b), other(2, -1), on(b.b)), true, 3, a.e)
		}
	}
}

// about are tables of so many barriers: one waits at all of them, is enrolled on all but waits at none, and is enrolled on none. Beside it 1 and 14 are enrolled on all, and 1 waits.
func about(many, p int) (waits, alone, gone []barrier.Bar) {
	for _, at := range mixed(many) {
		waits = append(waits, with(at, procs(1, 14, p), procs(1, p)))
		alone = append(alone, with(at, procs(1, 14, p), procs(1)))
		gone = append(gone, with(at, procs(1, 14), procs(1)))
	}
	return waits, alone, gone
}

// P23.3: Leave and Quit of each process that waits, is enrolled, or is not, at none, at one, and at all barriers of tables of all lengths: the others stay as they are.
func TestLeaveQuit(t *testing.T) {
	for _, many := range sizes {
		for _, p := range everybody(1, 14) {
			waits, alone, gone := about(many, p)
			leaves(t, gone, p, gone)
			quits(t, gone, p, gone)
			leaves(t, alone, p, alone)
			quits(t, alone, p, gone)
			leaves(t, waits, p, alone)
			quits(t, waits, p, gone)
			for b := range gone {
				leaves(t, put(gone, b, waits[b]), p, put(gone, b, alone[b]))
				quits(t, put(gone, b, waits[b]), p, gone)
				leaves(t, put(gone, b, alone[b]), p, put(gone, b, alone[b]))
				quits(t, put(gone, b, alone[b]), p, gone)
				leaves(t, put(alone, b, waits[b]), p, alone)
				leaves(t, put(waits, b, gone[b]), p, put(alone, b, gone[b]))
				quits(t, put(waits, b, alone[b]), p, gone)
				quits(t, put(waits, b, gone[b]), p, gone)
			}
		}
	}
}

// P23.3: Leave and Quit of the only one, of one of all, at the limit and ahead of it, and of what is no process.
func TestLeaveQuitEdges(t *testing.T) {
	table := mixed(mostBars)
	for b := range table {
		for _, phase := range []int{0, 1, table[b].Conf.Limit - 1, table[b].Conf.Limit} {
			at := moved(table[b], phase)
			for p := range lastProc + 1 {
				leaves(t, []barrier.Bar{with(at, procs(p), procs(p))}, p, []barrier.Bar{with(at, procs(p), nil)})
				quits(t, []barrier.Bar{with(at, procs(p), procs(p))}, p, []barrier.Bar{with(at, nil, nil)})
				leaves(t, []barrier.Bar{with(at, everybody(), everybody())}, p, []barrier.Bar{with(at, everybody(), everybody(p))})
				quits(t, []barrier.Bar{with(at, everybody(), everybody())}, p, []barrier.Bar{with(at, everybody(p), everybody(p))})
			}
		}
	}
	for _, p := range noProcs {
		for _, one := range [][]barrier.Bar{nil, table, wide(with(table[0], everybody(), everybody()), 3), few()} {
			leaves(t, one, p, one)
			quits(t, one, p, one)
		}
	}
}

// P23.3: Leave and Quit among barriers that may not be, at each place: these stay as they are, and the others are left, be they ahead of it or behind.
func TestLeaveQuitSpoilt(t *testing.T) {
	for _, bad := range spoilt() {
		for at := range mostBars {
			for _, p := range procs(3, 5, 0, 15, 9) {
				waits, alone, gone := about(mostBars, p)
				leaves(t, put(waits, at, bad), p, put(alone, at, bad))
				quits(t, put(waits, at, bad), p, put(gone, at, bad))
			}
		}
		all := []barrier.Bar{bad, bad, bad}
		for _, p := range slices.Concat(everybody(), []int{-1, 16, 64, 200, 255, math.MinInt, math.MaxInt}) {
			leaves(t, all, p, all)
			quits(t, all, p, all)
		}
	}
}

// P23.3, P23.4: Ready and Fire: each lot of ready barriers, where the others are such as nobody is enrolled on, such as miss somebody, such as are at their limit, and such as may not be: just those of the lot, rising, can be fired.
func TestReady(t *testing.T) {
	only(t, nil)
	plain := mixed(mostBars)
	bad := spoilt()
	for lot := range 1 << mostBars {
		for kind := range 4 {
			table := slices.Clone(plain)
			var want []int
			for b, at := range table {
				full := with(at, procs(3, 5), procs(3, 5))
				no := []barrier.Bar{with(at, nil, nil), at, moved(full, at.Conf.Limit), bad[(lot+b)%len(bad)]}
				table[b] = no[(kind+b)%4]
				if lot>>b&1 == 1 {
					table[b] = full
					want = append(want, b)
				}
			}
			only(t, table, want...)
		}
	}
}

// P23.3: Ready of long tables: all, each third one, and the last one.
func TestReadyLong(t *testing.T) {
	for _, many := range []int{9, 12, 70, 300} {
		var all, third []int
		full, some := mixed(many), mixed(many)
		for b := range full {
			full[b] = with(full[b], procs(3, 5), procs(3, 5))
			all = append(all, b)
			if b%3 == 0 {
				some[b] = full[b]
				third = append(third, b)
			}
		}
		readies(t, full, all...)
		readies(t, some, third...)
		only(t, put(mixed(many), many-1, full[many-1]), many-1)
	}
}

// P23.1: Fire at each barrier of tables of all lengths: all that waited are told, rising, and stay enrolled; just that barrier is another one, one phase further, up to its limit.
func TestFire(t *testing.T) {
	for _, many := range sizes {
		table := mixed(many)
		for b, at := range table {
			for _, who := range [][]int{procs(0), procs(15), procs(2, 4), everybody(), everybody(0), everybody(15), procs(1, 3, 5, 7, 9, 11, 13, 15)} {
				for _, phase := range []int{0, 1, at.Conf.Limit - 1} {
					full := put(table, b, with(moved(at, phase), who, who))
					fires(t, full, b, put(table, b, with(moved(at, phase+1), who, nil)), who, api.OK)
				}
				unfires(t, put(table, b, with(moved(at, at.Conf.Limit), who, who)), b, api.ErrState)
				unfires(t, put(table, b, with(at, who, who[1:])), b, api.ErrState)
				unfires(t, put(table, b, with(at, who, nil)), b, api.ErrState)
			}
			unfires(t, put(table, b, with(at, nil, nil)), b, api.ErrState)
		}
	}
}

// busy is a table of six barriers that are for alts: all are there at the first, the second and the last one, some at the third and the fourth one, and nobody at the fifth one.
func busy() []barrier.Bar {
	table := mixed(6)
	for b, who := range [][2][]int{
		{procs(2, 3, 7), procs(2, 3, 7)}, {procs(0, 4, 15), procs(0, 4, 15)}, {procs(2, 3, 7), procs(2, 7)},
		{procs(0, 1, 2), procs(0, 1)}, {procs(0, 1, 2), nil}, {everybody(), everybody()},
	} {
		table[b] = with(alts(table[b], true), who[0], who[1])
	}
	return table
}

// P23.1 to P23.3: the answer of one call and the table that it was handed may both be used: neither is written to by calls of the other one; nor is what Ready and Fire tell.
func TestAnswersOfTheirOwn(t *testing.T) {
	first := busy()
	table, check := keptTable(t, first)
	got, want := [][]barrier.Bar{table}, [][]barrier.Bar{slices.Clone(first)}
	var told, asTold [][]int
	add := func(one []barrier.Bar) { got, want = append(got, one), append(want, slices.Clone(one)) }
	tell := func(one []int) { told, asTold = append(told, one), append(asTold, slices.Clone(one)) }
	for range 2 {
		for i, one := range slices.Clone(got) {
			for p := range 3 {
				a, _, _ := Offer(one, p, ons(4, 3-p/2*(i%2)), p == 1)
				add(a)
				b, _ := Enrol(one, 4, p+i%9)
				add(b)
				c, _ := Resign(one, p, p+i%9)
				add(c)
				d, who, _ := Fire(one, p%2*5)
				add(d)
				tell(who)
				tell(Ready(d))
				tell(Ready(one))
				add(Leave(one, p+2))
				add(Quit(one, p+2))
			}
		}
	}
	for i := range got {
		if !slices.Equal(got[i], want[i]) {
			t.Errorf("table %d: %v; it was %v", i, got[i], want[i])
		}
	}
	if !slices.EqualFunc(told, asTold, slices.Equal) || !slices.ContainsFunc(told, func(l []int) bool { return len(l) > 1 }) {
		t.Errorf("what was told: %v; it was %v", told, asTold)
	}
	check()
}

// P23.1 to P23.3: tables by chance, some of their barriers such as may not be: all calls held against what layer 22 tells of each barrier.
func TestChance(t *testing.T) {
	r := rand.New(rand.NewSource(23))
	bad := spoilt()
	for range 4000 {
		table := make([]barrier.Bar, r.Intn(mostBars+2))
		for i := range table {
			table[i] = byChance(r, bad)
		}
		var l []api.Guard
		for range r.Intn(8) {
			g := api.Guard{Kind: api.Bar, Obj: r.Intn(len(table) + 1), Val: r.Intn(100), Reg: r.Intn(8), No: r.Intn(7)}
			if r.Intn(4) == 0 {
				g.Kind = otherKinds[r.Intn(len(otherKinds))]
			}
			if r.Intn(30) == 0 {
				g.Obj = noBars(len(table))[r.Intn(20)]
			}
			l = append(l, g)
		}
		every(t, table, r.Intn(lastProc+3)-1, l)
	}
}

// byChance is a barrier by chance, which may be, or now and then may not.
func byChance(r *rand.Rand, bad []barrier.Bar) barrier.Bar {
	if r.Intn(12) == 0 {
		return bad[r.Intn(len(bad))]
	}
	limit := 1 + r.Intn(1+r.Intn(final))
	b := barrier.Bar{Conf: api.Barrier{Alting: r.Intn(2) == 0, Limit: limit}, Phase: r.Intn(limit + 1)}
	members := r.Perm(lastProc + 1)[:r.Intn(lastProc+2)]
	at := members
	if r.Intn(3) > 0 {
		at = members[:r.Intn(len(members)+1)]
	}
	return with(b, members, at)
}

// note is what was done to a barrier: who has enrolled and not resigned, who has offered since, and how often it fired.
type note struct {
	belongs, came [lastProc + 1]bool
	fired         int
}

// whole tells whether it may fire: somebody belongs, none of those that do is missing, and it has not fired as often as it may.
func (n note) whole(limit int) bool {
	return n.belongs != [lastProc + 1]bool{} && n.belongs == n.came && n.fired < limit
}

// list are the processes of which something is so, rising.
func list(is [lastProc + 1]bool) []int {
	var l []int
	for p, so := range is {
		if so {
			l = append(l, p)
		}
	}
	return l
}

// counts are how many offers of more than one guard were taken, how many were refused behind their first guard, how many barriers fired, and how many came to their limit.
type counts struct{ taken, refused, fired, spent int }

// watch is a table beside what was done to it.
type watch struct {
	table []barrier.Bar
	confs []api.Barrier
	notes [mostBars]note
	counts
}

// begin is a new table, to which nothing was done.
func begin(t *testing.T, l ...api.Barrier) watch {
	t.Helper()
	table, at, e := New(l)
	if at != 0 || e != api.OK {
		t.Fatalf("New(%v): %d, %d", l, at, e)
	}
	return watch{table: table, confs: l}
}

// The calls of a run.
const (
	enrol = iota
	resign
	offer
	offerAlting
	leave
	quit
	fire
)

// step is one call of a run: of which barrier, which process, and which barriers' guards.
type step struct {
	call, b, p int
	l          []api.Guard
}

// do makes one call of a run, and notes it; what it tells is held against the notes.
func (w *watch) do(t *testing.T, s step) {
	t.Helper()
	was := w.table
	var e, want api.Errno
	switch s.call {
	case enrol:
		want = w.enrol(s.b, s.p)
		w.table, e = Enrol(w.table, s.b, s.p)
	case resign:
		want = w.resign(s.b, s.p)
		w.table, e = Resign(w.table, s.b, s.p)
	case offer, offerAlting:
		var at, place int
		place, want = w.offer(s.p, s.l, s.call == offerAlting)
		w.table, at, e = Offer(w.table, s.p, s.l, s.call == offerAlting)
		if at != place {
			t.Fatalf("Offer(%v, %d, %v): place %d; want %d", was, s.p, s.l, at, place)
		}
	case leave:
		w.leave(s.p)
		w.table = Leave(w.table, s.p)
	case quit:
		w.quit(s.p)
		w.table = Quit(w.table, s.p)
	case fire:
		var who, all []int
		all, want = w.fire(s.b)
		w.table, who, e = Fire(w.table, s.b)
		if !slices.Equal(who, all) {
			t.Fatalf("Fire(%v, %d): %v; want %v", was, s.b, who, all)
		}
	}
	if e != want || e != api.OK && !slices.Equal(w.table, was) {
		t.Fatalf("%v: %v, %d; want %d", s, w.table, e, want)
	}
	w.holds(t)
}

// enrol notes that one is enrolled, or tells why not.
func (w *watch) enrol(b, p int) api.Errno {
	switch {
	case b == len(w.table):
		return api.ErrRange
	case w.notes[b].belongs[p]:
		return api.ErrThere
	}
	w.notes[b].belongs[p] = true
	return api.OK
}

// resign notes that one resigns, or tells why not.
func (w *watch) resign(b, p int) api.Errno {
	switch {
	case b == len(w.table):
		return api.ErrRange
	case !w.notes[b].belongs[p]:
		return api.ErrNone
	}
	w.notes[b].belongs[p], w.notes[b].came[p] = false, false
	return api.OK
}

// offer notes that one comes by guards, or tells by which it may not, and why.
func (w *watch) offer(p int, l []api.Guard, alting bool) (int, api.Errno) {
	after, many := w.notes, 0
	for i, g := range l {
		if g.Kind != 3 {
			continue
		}
		if e := w.bars(after, g.Obj, p, alting); e != api.OK {
			w.refused += min(many, 1)
			return i, e
		}
		after[g.Obj].came[p] = true
		many++
	}
	if many > 1 {
		w.taken++
	}
	w.notes = after
	return 0, api.OK
}

// bars tells by notes why one may not come to a barrier.
func (w *watch) bars(notes [mostBars]note, b, p int, alting bool) api.Errno {
	switch {
	case b == len(w.table):
		return api.ErrRange
	case alting && !w.confs[b].Alting:
		return api.ErrKind
	case notes[b].fired == w.confs[b].Limit:
		return api.ErrLimit
	case !notes[b].belongs[p]:
		return api.ErrNone
	case notes[b].came[p]:
		return api.ErrThere
	}
	return api.OK
}

// leave notes that one waits nowhere.
func (w *watch) leave(p int) {
	for b := range w.notes {
		w.notes[b].came[p] = false
	}
}

// quit notes that one is nowhere.
func (w *watch) quit(p int) {
	for b := range w.notes {
		w.notes[b].belongs[p], w.notes[b].came[p] = false, false
	}
}

// fire notes that a barrier fires, and tells who goes on; or tells why it does not.
func (w *watch) fire(b int) ([]int, api.Errno) {
	switch {
	case b == len(w.table):
		return nil, api.ErrRange
	case !w.notes[b].whole(w.confs[b].Limit):
		return nil, api.ErrState
	}
	n := &w.notes[b]
	n.came = [lastProc + 1]bool{}
	n.fired++
	w.fired++
	if n.fired == w.confs[b].Limit {
		w.spent++
	}
	return list(n.belongs), api.OK
}

// holds fails, unless the table is just what was noted, Ready tells what may fire, and just that can be fired.
func (w *watch) holds(t *testing.T) {
	t.Helper()
	var able []int
	for b, c := range w.confs {
		n := w.notes[b]
		if want := with(barrier.Bar{Conf: c, Phase: n.fired}, list(n.belongs), list(n.came)); w.table[b] != want {
			t.Fatalf("barrier %d: %v; want %v", b, w.table[b], want)
		}
		_, _, e := Fire(w.table, b)
		is := n.whole(c.Limit)
		if is {
			able = append(able, b)
		}
		if is != (e == api.OK) {
			t.Fatalf("Fire(%v, %d): %d", w.table, b, e)
		}
	}
	if got := Ready(w.table); len(w.table) != len(w.confs) || !slices.Equal(got, able) {
		t.Fatalf("Ready(%v): %v; want %v", w.table, got, able)
	}
}

// steps are all calls of a run of two barriers, and of two processes.
func steps() []step {
	var l []step
	for _, p := range []int{0, 15} {
		for b := range 2 {
			l = append(l, step{call: enrol, b: b, p: p}, step{call: resign, b: b, p: p})
		}
		for _, call := range []int{offer, offerAlting} {
			for _, on := range [][]int{{0}, {1}, {0, 1}, {1, 0}, {1, 1}} {
				l = append(l, step{call: call, p: p, l: ons(on...)})
			}
		}
		l = append(l, step{call: leave, p: p}, step{call: quit, p: p})
	}
	return append(l, step{call: fire, b: 0}, step{call: fire, b: 1})
}

// runs goes on with all runs of so many of these calls.
func runs(t *testing.T, w watch, l []step, many int) {
	t.Helper()
	if many == 0 {
		return
	}
	for _, s := range l {
		next := w
		next.do(t, s)
		runs(t, next, l, many-1)
	}
}

// P23.4: all runs of three calls of two processes, at two barriers, from such as nobody is enrolled on, and from such as have some and all enrolled and waiting.
func TestShortRuns(t *testing.T) {
	all := steps()
	for _, both := range [][]api.Barrier{{{Limit: 1}, {Alting: true, Limit: 2}}, {{Alting: true, Limit: 1}, {Alting: true, Limit: 1}}} {
		w := begin(t, both...)
		runs(t, w, all, 3)
		w.do(t, step{call: enrol, b: 0, p: 0})
		w.do(t, step{call: enrol, b: 1, p: 0})
		runs(t, w, all, 3)
		w.do(t, step{call: enrol, b: 1, p: 15})
		w.do(t, step{call: offer, p: 0, l: ons(0, 1)})
		runs(t, w, all, 3)
		w.do(t, step{call: offer, p: 15, l: ons(1)})
		w.do(t, step{call: fire, b: 1})
		runs(t, w, all, 3)
	}
}

// some is a step by chance, of one of these processes.
func (w *watch) some(r *rand.Rand, who []int) step {
	s := step{call: []int{enrol, enrol, enrol, resign, offer, offer, offer, offerAlting, offerAlting, leave, fire, fire}[r.Intn(12)], b: r.Intn(len(w.table)), p: who[r.Intn(len(who))]}
	if r.Intn(60) == 0 {
		s.call = quit
	}
	if r.Intn(50) == 0 {
		s.b = len(w.table)
	}
	if l := Ready(w.table); s.call == fire && len(l) > 0 && r.Intn(4) > 0 {
		s.b = l[r.Intn(len(l))]
	}
	if s.call == offer || s.call == offerAlting {
		s.l = w.guards(r, s.p, s.call == offerAlting)
	}
	return s
}

// guards are guards by chance of one process, most of which are such as may be offered.
func (w *watch) guards(r *rand.Rand, p int, alting bool) []api.Guard {
	var l []api.Guard
	for _, b := range r.Perm(len(w.table)) {
		g := on(b)
		switch r.Intn(40) {
		case 0, 1:
			g = other(otherKinds[r.Intn(len(otherKinds))], b)
		case 2:
			g.Obj = len(w.table)
		case 3, 4: // whatever the notes tell of it
		default:
			if w.bars(w.notes, b, p, alting) != api.OK || r.Intn(4) == 0 {
				continue
			}
		}
		l = append(l, g)
	}
	return l
}

// P23.4: long runs by chance, of few and of many processes, and of one to eight barriers: what is told, step by step, is just what was done; who quits is nowhere; and what was there ahead of each step stays as it was.
func TestRuns(t *testing.T) {
	r := rand.New(rand.NewSource(234))
	var all counts
	for run := range 400 {
		l := make([]api.Barrier, 1+run%mostBars)
		for i := range l {
			l[i] = api.Barrier{Alting: r.Intn(3) > 0, Limit: []int{1, 2, 3, 7, final}[r.Intn(5)]}
		}
		w, who := begin(t, l...), r.Perm(lastProc + 1)[:[]int{1, 2, 3, 5, 16}[r.Intn(5)]]
		var before, were [][]barrier.Bar
		for range 200 {
			before, were = append(before, w.table), append(were, slices.Clone(w.table))
			w.do(t, w.some(r, who))
		}
		for i := range before {
			if !slices.Equal(before[i], were[i]) {
				t.Fatalf("step %d: %v; it was %v", i, before[i], were[i])
			}
		}
		for _, p := range who {
			w.do(t, step{call: quit, p: p})
		}
		for b, at := range w.table {
			if at.Roll != (roll.Roll{}) {
				t.Fatalf("all have quit, and at barrier %d somebody is: %v", b, at)
			}
		}
		all = counts{all.taken + w.taken, all.refused + w.refused, all.fired + w.fired, all.spent + w.spent}
	}
	if all.taken < 1000 || all.refused < 1000 || all.fired < 1000 || all.spent < 100 {
		t.Errorf("too little happened: %v", all)
	}
}

// P23.4: who is missing at all barriers quits: all are ready, and can be fired, one by one; who quits among those that wait is not told.
func TestQuitReadies(t *testing.T) {
	for many := 1; many <= mostBars; many++ {
		w := begin(t, confs(many)...)
		var l []int
		for b := range many {
			l = append(l, b)
			for _, p := range procs(2, 4, 15) {
				w.do(t, step{call: enrol, b: b, p: p})
			}
		}
		w.do(t, step{call: offer, p: 2, l: ons(l...)})
		w.do(t, step{call: offer, p: 15, l: ons(l...)})
		readies(t, w.table)
		w.do(t, step{call: quit, p: 4})
		readies(t, w.table, l...)
		w.do(t, step{call: quit, p: 2})
		readies(t, w.table, l...)
		for b := range many {
			if _, who, e := Fire(w.table, b); !slices.Equal(who, procs(15)) || e != api.OK {
				t.Errorf("Fire(%v, %d): %v, %d", w.table, b, who, e)
			}
			w.do(t, step{call: fire, b: b})
			readies(t, w.table, l[b+1:]...)
		}
		w.do(t, step{call: quit, p: 15})
		only(t, w.table)
	}
}
