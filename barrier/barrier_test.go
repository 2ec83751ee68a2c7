package barrier

import (
	"math"
	"math/bits"
	"math/rand"
	"slices"
	"testing"

	"becket/api"
	"becket/bitset"
	"becket/roll"
)

// What the chapters' words tell.
const (
	last  = 15    // the last process's number
	final = 65535 // the last limit
	whole = 1<<16 - 1
)

// limits are the first one, the last one, some that are near them, near the ends of smaller types, and in between.
var limits = []int{1, 2, 3, 9, 127, 128, 255, 256, 257, 32767, 32768, 65534, 65535}

// noLimits are numbers that are no limits: beside the first one and the last one, such as become a limit when they are cut to fewer bits, or lose their sign, and the ends of int.
var noLimits = []int{math.MinInt, math.MinInt + 1, math.MinInt + final, -1<<32 + 5, -1 << 31, -65537, -65536, -65535, -65531, -256, -255, -5, -1, 0, 65536, 65537, 65541, 131071, 131072, 1<<31 - 1, 1 << 31, 1 << 32, 1<<32 + 1, 1<<32 + final, 1 << 62, math.MaxInt - final, math.MaxInt - 1, math.MaxInt}

// noProcs are numbers of no processes: beside the first one and the last one, such as become a process's when they are cut to fewer bits, or lose their sign, the ids of sets beyond the processes, and the ends of int.
var noProcs = []int{math.MinInt, math.MinInt + 1, math.MinInt + 5, math.MinInt + 15, -1<<32 + 5, -65531, -256, -251, -64, -16, -15, -5, -2, -1, 16, 17, 21, 31, 32, 63, 64, 69, 128, 192, 255, 256, 261, 65541, 1<<31 + 5, 1<<32 + 5, 1 << 62, math.MaxInt - 15, math.MaxInt - 1, math.MaxInt}

// set has these ids: made bit by bit.
func set(ids ...int) bitset.Set {
	var s bitset.Set
	for _, id := range ids {
		s[id>>6] |= 1 << (id & 63)
	}
	return s
}

// ids are a set's, rising: read bit by bit.
func ids(s bitset.Set) []int {
	var l []int
	for id := range 256 {
		if s[id>>6]>>(id&63)&1 == 1 {
			l = append(l, id)
		}
	}
	return l
}

// in tells whether a number is a process's that is in a set.
func in(s bitset.Set, p int) bool { return p >= 0 && p <= last && s[0]>>p&1 == 1 }

// of is a roll of those that are enrolled, and those that wait.
func of(members, at []int) roll.Roll { return roll.Roll{Members: set(members...), At: set(at...)} }

// bar is a barrier that is not for alts.
func bar(limit, phase int, r roll.Roll) Bar {
	return Bar{Conf: api.Barrier{Limit: limit}, Roll: r, Phase: phase}
}

// alting is a barrier that is for alts.
func alting(limit, phase int, r roll.Roll) Bar {
	return Bar{Conf: api.Barrier{Alting: true, Limit: limit}, Roll: r, Phase: phase}
}

// procs are the numbers of all processes.
func procs() []int {
	var l []int
	for p := range last + 1 {
		l = append(l, p)
	}
	return l
}

// but are the numbers of all processes but these.
func but(gone ...int) []int {
	return slices.DeleteFunc(procs(), func(p int) bool { return slices.Contains(gone, p) })
}

// groups are lists of processes: nobody, each one alone, some, all but one, and all.
func groups() [][]int {
	out := [][]int{nil, {0, 15}, {2, 4}, {3, 7, 8, 12}, {1, 3, 5, 7, 9, 11, 13, 15}, procs()}
	for p := range last + 1 {
		out = append(out, []int{p}, but(p))
	}
	return out
}

// rolls are rolls that may be: of each of the groups, where nobody waits, one, all but one, and all.
func rolls() []roll.Roll {
	var out []roll.Roll
	for _, l := range groups() {
		out = append(out, of(l, nil), of(l, l))
		for i := range l {
			out = append(out, of(l, l[i:i+1]), of(l, slices.Concat(l[:i], l[i+1:])))
		}
	}
	return out
}

// noRolls are rolls that may not be: who is no process is enrolled, or waits; and somebody waits who is not enrolled.
func noRolls() []roll.Roll {
	all := bitset.Set{math.MaxUint64, math.MaxUint64, math.MaxUint64, math.MaxUint64}
	out := []roll.Roll{{Members: all}, {At: all}, {Members: all, At: all}, {Members: set(procs()...), At: all}, of(nil, procs())}
	for _, id := range []int{16, 17, 31, 63, 64, 79, 128, 192, 255} {
		for _, l := range [][]int{nil, {5}, procs()} {
			more := append(slices.Clone(l), id)
			out = append(out, of(more, nil), of(more, more), of(more, l), of(l, more))
		}
	}
	for _, p := range procs() {
		out = append(out, of(nil, []int{p}), of(but(p), []int{p}), of(but(p), procs()), of([]int{p}, procs()))
	}
	return out
}

// few are some rolls: such as may be, from nobody enrolled to all waiting, and such as may not.
func few() []roll.Roll {
	return []roll.Roll{
		{}, of([]int{0}, nil), of([]int{0}, []int{0}), of([]int{15}, nil), of([]int{15}, []int{15}), of([]int{2, 4}, nil), of([]int{2, 4}, []int{2}), of([]int{2, 4}, []int{2, 4}),
		of(procs(), nil), of(procs(), []int{7}), of(procs(), but(15)), of(procs(), but(0)), of(procs(), procs()), of(but(7), but(7)),
		of([]int{16}, nil), of([]int{16}, []int{16}), of([]int{2, 255}, []int{2, 255}), of(nil, []int{5}), of([]int{4}, []int{5}), of([]int{2, 4}, []int{2, 4, 5}),
	}
}

// phases are some of a limit's: the first ones, the last ones, and one in between.
func phases(limit int) []int {
	l := slices.DeleteFunc([]int{0, 1, limit / 2, limit - 2, limit - 1, limit}, func(n int) bool { return n < 0 || n > limit })
	slices.Sort(l)
	return slices.Compact(l)
}

// noPhases are numbers that are no phases of a limit: beside the first one and the last one, such as become a phase of it when they are cut to fewer bits, or lose their sign, and the ends of int.
func noPhases(limit int) []int {
	return []int{math.MinInt, math.MinInt + limit, -1<<32 + 1, -65536, -limit - 1, -limit, -2, -1, limit + 1, limit + 2, 2*limit + 1, limit + 65536, 1<<32 + limit, math.MaxInt - 1, math.MaxInt}
}

// wrong are barriers that may not be: by what they are to be, by their roll, by their phase, by two of these, and by all.
func wrong() []Bar {
	var out []Bar
	good := []roll.Roll{{}, of([]int{2, 4}, []int{2}), of([]int{5}, []int{5}), of(procs(), procs())}
	bad := []roll.Roll{of([]int{16}, []int{16}), of([]int{2}, []int{5}), of(nil, []int{5})}
	for _, limit := range noLimits {
		for _, phase := range []int{0, 1, -1, limit, math.MaxInt} {
			for _, r := range slices.Concat(good, bad) {
				out = append(out, bar(limit, phase, r), alting(limit, phase, r))
			}
		}
	}
	for _, limit := range []int{1, 2, final} {
		for _, phase := range noPhases(limit) {
			for _, r := range slices.Concat(good, bad) {
				out = append(out, bar(limit, phase, r), alting(limit, phase, r))
			}
		}
		for _, phase := range phases(limit) {
			for _, r := range noRolls() {
				out = append(out, bar(limit, phase, r), alting(limit, phase, r))
			}
		}
	}
	return out
}

// may is a second reading of when a barrier may be.
func may(b Bar) bool {
	if b.Conf.Limit <= 0 || b.Conf.Limit > final || b.Phase < 0 || b.Phase > b.Conf.Limit {
		return false
	}
	members, at := b.Roll.Members, b.Roll.At
	for k := range members {
		if k > 0 && members[k] != 0 || at[k]|members[k] != members[k] {
			return false
		}
	}
	return members[0] <= whole
}

// ready is a second reading of when a barrier is ready: somebody belongs to it, nobody of these is missing, and a phase is left.
func ready(b Bar) bool {
	many := bits.OnesCount64(b.Roll.Members[0])
	return may(b) && many > 0 && many == bits.OnesCount64(b.Roll.At[0]) && b.Phase != b.Conf.Limit
}

// enrolled is a second reading of what Enrol answers.
func enrolled(b Bar, p int) (Bar, api.Errno) {
	switch {
	case !may(b):
		return b, api.ErrArg
	case p < 0 || p > last:
		return b, api.ErrRange
	case in(b.Roll.Members, p):
		return b, api.ErrThere
	}
	b.Roll.Members[0] += 1 << p
	return b, api.OK
}

// resigned is a second reading of what Resign answers.
func resigned(b Bar, p int) (Bar, api.Errno) {
	switch {
	case !may(b):
		return b, api.ErrArg
	case p < 0 || p > last:
		return b, api.ErrRange
	case !in(b.Roll.Members, p):
		return b, api.ErrNone
	}
	b.Roll.Members[0] &^= 1 << p
	b.Roll.At[0] &^= 1 << p
	return b, api.OK
}

// offered is a second reading of what Offer answers.
func offered(b Bar, p int, alting bool) (Bar, api.Errno) {
	switch {
	case !may(b):
		return b, api.ErrArg
	case alting && !b.Conf.Alting:
		return b, api.ErrKind
	case b.Phase == b.Conf.Limit:
		return b, api.ErrLimit
	case p < 0 || p > last:
		return b, api.ErrRange
	case !in(b.Roll.Members, p):
		return b, api.ErrNone
	case in(b.Roll.At, p):
		return b, api.ErrThere
	}
	b.Roll.At[0] += 1 << p
	return b, api.OK
}

// withdrawn is a second reading of what Withdraw answers.
func withdrawn(b Bar, p int) Bar {
	if may(b) && in(b.Roll.At, p) {
		b.Roll.At[0] -= 1 << p
	}
	return b
}

// fired is a second reading of what Fire answers.
func fired(b Bar) (Bar, []int, api.Errno) {
	switch {
	case !may(b):
		return b, nil, api.ErrArg
	case !ready(b):
		return b, nil, api.ErrState
	}
	who := ids(b.Roll.At)
	b.Roll.At = bitset.Set{}
	b.Phase++
	return b, who, api.OK
}

// checks fails, unless Check and New answer so of a limit, be the barrier for alts or not: with an error there is no barrier.
func checks(t *testing.T, limit int, err api.Errno) {
	t.Helper()
	for _, c := range []api.Barrier{{Limit: limit}, {Alting: true, Limit: limit}} {
		want := Bar{Conf: c}
		if err != api.OK {
			want = Bar{}
		}
		if e := Check(c); e != err {
			t.Errorf("Check(%v): %d; want %d", c, e, err)
		}
		if b, e := New(c); b != want || e != err {
			t.Errorf("New(%v): %v, %d; want %v, %d", c, b, e, want, err)
		}
	}
}

// fine fails, unless Fine answers so.
func fine(t *testing.T, b Bar, want bool) {
	t.Helper()
	if got := Fine(b); got != want {
		t.Errorf("Fine(%v): %v; want %v", b, got, want)
	}
}

// enrols fails, unless Enrol answers so.
func enrols(t *testing.T, b Bar, p int, want Bar, err api.Errno) {
	t.Helper()
	if got, e := Enrol(b, p); got != want || e != err {
		t.Errorf("Enrol(%v, %d): %v, %d; want %v, %d", b, p, got, e, want, err)
	}
}

// resigns fails, unless Resign answers so.
func resigns(t *testing.T, b Bar, p int, want Bar, err api.Errno) {
	t.Helper()
	if got, e := Resign(b, p); got != want || e != err {
		t.Errorf("Resign(%v, %d): %v, %d; want %v, %d", b, p, got, e, want, err)
	}
}

// offers fails, unless Offer answers so.
func offers(t *testing.T, b Bar, p int, alting bool, want Bar, err api.Errno) {
	t.Helper()
	if got, e := Offer(b, p, alting); got != want || e != err {
		t.Errorf("Offer(%v, %d, %v): %v, %d; want %v, %d", b, p, alting, got, e, want, err)
	}
}

// refused fails, unless Enrol, Resign and Offer answer that error, and the barrier that they were handed.
func refused(t *testing.T, b Bar, p int, err api.Errno) {
	t.Helper()
	enrols(t, b, p, b, err)
	resigns(t, b, p, b, err)
	offers(t, b, p, false, b, err)
	if b.Conf.Alting || err == api.ErrArg {
		offers(t, b, p, true, b, err)
	}
}

// withdraws fails, unless Withdraw answers so.
func withdraws(t *testing.T, b Bar, p int, want Bar) {
	t.Helper()
	if got := Withdraw(b, p); got != want {
		t.Errorf("Withdraw(%v, %d): %v; want %v", b, p, got, want)
	}
}

// readies fails, unless Ready answers so.
func readies(t *testing.T, b Bar, want bool) {
	t.Helper()
	if got := Ready(b); got != want {
		t.Errorf("Ready(%v): %v; want %v", b, got, want)
	}
}

// fires fails, unless Fire answers so.
func fires(t *testing.T, b, want Bar, who []int, err api.Errno) {
	t.Helper()
	if got, l, e := Fire(b); got != want || !slices.Equal(l, who) || e != err {
		t.Errorf("Fire(%v): %v, %v, %d; want %v, %v, %d", b, got, l, e, want, who, err)
	}
}

// unfires fails, unless Fire answers that error, nobody, and the barrier that it was handed; and Ready, that it is not ready.
func unfires(t *testing.T, b Bar, err api.Errno) {
	t.Helper()
	readies(t, b, false)
	fires(t, b, b, nil, err)
}

// every holds all calls of a barrier, and of the numbers, against the second readings.
func every(t *testing.T, b Bar, numbers ...int) {
	t.Helper()
	fine(t, b, may(b))
	readies(t, b, ready(b))
	after, who, e := fired(b)
	fires(t, b, after, who, e)
	for _, p := range numbers {
		after, e = enrolled(b, p)
		enrols(t, b, p, after, e)
		after, e = resigned(b, p)
		resigns(t, b, p, after, e)
		for _, alting := range []bool{false, true} {
			after, e = offered(b, p, alting)
			offers(t, b, p, alting, after, e)
		}
		withdraws(t, b, p, withdrawn(b, p))
	}
}

// The chapter's example.
func TestExample(t *testing.T) {
	b, e := New(api.Barrier{Limit: 1})
	if b != bar(1, 0, roll.Roll{}) || e != api.OK {
		t.Fatal(b, e)
	}
	enrols(t, b, 2, bar(1, 0, of([]int{2}, nil)), api.OK)
	b, _ = Enrol(b, 2)
	offers(t, b, 2, false, bar(1, 0, of([]int{2}, []int{2})), api.OK)
	b, _ = Offer(b, 2, false)
	readies(t, b, true)
	fires(t, b, bar(1, 1, of([]int{2}, nil)), []int{2}, api.OK)
	b, _, _ = Fire(b)
	offers(t, b, 2, false, b, api.ErrLimit)
}

// The numbers of the errors that the chapter names.
func TestErrorNumbers(t *testing.T) {
	two := bar(2, 1, of([]int{2, 4}, []int{2}))
	for _, c := range []struct {
		got  func() api.Errno
		want int
	}{
		{func() api.Errno { return Check(api.Barrier{}) }, 8},
		{func() api.Errno { _, e := Enrol(Bar{}, 2); return e }, 1},
		{func() api.Errno { _, e := Enrol(two, 16); return e }, 8},
		{func() api.Errno { _, e := Enrol(two, 2); return e }, 7},
		{func() api.Errno { _, e := Resign(two, 3); return e }, 6},
		{func() api.Errno { _, e := Offer(two, 4, true); return e }, 12},
		{func() api.Errno { _, e := Offer(bar(2, 2, two.Roll), 4, false); return e }, 14},
		{func() api.Errno { _, _, e := Fire(two); return e }, 13},
		{func() api.Errno { _, e := Enrol(two, 3); return e }, 0},
	} {
		if e := c.got(); int(e) != c.want {
			t.Errorf("%d; want %d", e, c.want)
		}
	}
}

// P22.1: Check and New: the limits that the issue names, and all others that are near them, far ones, and the ends of int.
func TestCheck(t *testing.T) {
	for _, c := range []struct {
		limit int
		err   api.Errno
	}{
		{-1, api.ErrRange}, {0, api.ErrRange}, {1, api.OK}, {2, api.OK}, {65534, api.OK}, {65535, api.OK}, {65536, api.ErrRange},
	} {
		checks(t, c.limit, c.err)
	}
	for limit := 1; limit <= final; limit++ {
		checks(t, limit, api.OK)
	}
	for _, limit := range noLimits {
		checks(t, limit, api.ErrRange)
	}
}

// P22.1: Fine: by what it is to be, and by its phase: the edges that the issue names.
func TestFine(t *testing.T) {
	for _, c := range []struct {
		limit, phase int
		want         bool
	}{
		{-1, -1, false}, {-1, 0, false}, {-1, 1, false}, {0, -1, false}, {0, 0, false}, {0, 1, false},
		{1, -1, false}, {1, 0, true}, {1, 1, true}, {1, 2, false}, {2, -1, false}, {2, 0, true}, {2, 1, true}, {2, 2, true}, {2, 3, false},
		{65535, -1, false}, {65535, 0, true}, {65535, 1, true}, {65535, 65534, true}, {65535, 65535, true}, {65535, 65536, false},
		{65536, -1, false}, {65536, 0, false}, {65536, 65535, false}, {65536, 65536, false}, {65536, 65537, false},
		{math.MinInt, math.MinInt, false}, {math.MinInt, 0, false}, {math.MaxInt, 0, false}, {math.MaxInt, math.MaxInt, false},
	} {
		for _, r := range rolls() {
			fine(t, bar(c.limit, c.phase, r), c.want)
			fine(t, alting(c.limit, c.phase, r), c.want)
		}
	}
	fine(t, Bar{}, false)
}

// P22.1: Fine: by its roll: each id as a member, and as one who waits, alone and beside each other.
func TestFineRoll(t *testing.T) {
	for _, r := range rolls() {
		fine(t, bar(9, 4, r), true)
		fine(t, alting(9, 9, r), true)
	}
	for _, r := range noRolls() {
		fine(t, bar(9, 4, r), false)
		fine(t, alting(9, 9, r), false)
	}
	for id := range 256 {
		fine(t, bar(1, 0, of([]int{id}, nil)), id <= last)
		fine(t, bar(1, 1, of([]int{id}, []int{id})), id <= last)
		fine(t, bar(1, 0, of(nil, []int{id})), false)
		for other := range 256 {
			fine(t, bar(final, 7, of([]int{id}, []int{other})), id == other && id <= last)
		}
	}
}

// P22.1: Fine: barriers that may not be: by one thing, by two, and by all.
func TestFineWrong(t *testing.T) {
	for _, b := range wrong() {
		fine(t, b, false)
	}
	for _, limit := range limits {
		for _, phase := range phases(limit) {
			fine(t, bar(limit, phase, roll.Roll{}), true)
			fine(t, alting(limit, phase, of(procs(), procs())), true)
		}
		for _, phase := range noPhases(limit) {
			fine(t, bar(limit, phase, roll.Roll{}), false)
			fine(t, alting(limit, phase, of(procs(), procs())), false)
		}
	}
}

// P22.2: Enrol: onto a barrier on which nobody is, and on which others are, who go on waiting; be it at its limit or not; who is enrolled already.
func TestEnrol(t *testing.T) {
	for _, c := range []struct {
		r    roll.Roll
		p    int
		want roll.Roll
		err  api.Errno
	}{
		{roll.Roll{}, 0, of([]int{0}, nil), api.OK}, {roll.Roll{}, 15, of([]int{15}, nil), api.OK},
		{of([]int{2}, []int{2}), 4, of([]int{2, 4}, []int{2}), api.OK}, {of([]int{4}, nil), 2, of([]int{2, 4}, nil), api.OK},
		{of(but(0), but(0)), 0, of(procs(), but(0)), api.OK}, {of(but(15), nil), 15, of(procs(), nil), api.OK},
		{of([]int{0}, nil), 0, of([]int{0}, nil), api.ErrThere}, {of([]int{15}, []int{15}), 15, of([]int{15}, []int{15}), api.ErrThere}, {of(procs(), procs()), 7, of(procs(), procs()), api.ErrThere},
		{roll.Roll{}, -1, roll.Roll{}, api.ErrRange}, {roll.Roll{}, 16, roll.Roll{}, api.ErrRange}, {of(procs(), but(3)), 16, of(procs(), but(3)), api.ErrRange},
	} {
		for _, limit := range limits {
			for _, phase := range phases(limit) {
				enrols(t, bar(limit, phase, c.r), c.p, bar(limit, phase, c.want), c.err)
				enrols(t, alting(limit, phase, c.r), c.p, alting(limit, phase, c.want), c.err)
			}
		}
	}
}

// P22.2: Resign: of who waits, and of who does not, the others go on waiting; be it at its limit or not; of who is not enrolled.
func TestResign(t *testing.T) {
	for _, c := range []struct {
		r    roll.Roll
		p    int
		want roll.Roll
		err  api.Errno
	}{
		{of([]int{0}, nil), 0, roll.Roll{}, api.OK}, {of([]int{15}, []int{15}), 15, roll.Roll{}, api.OK},
		{of([]int{2, 4}, []int{2}), 4, of([]int{2}, []int{2}), api.OK}, {of([]int{2, 4}, []int{2}), 2, of([]int{4}, nil), api.OK}, {of([]int{2, 4}, []int{2, 4}), 2, of([]int{4}, []int{4}), api.OK},
		{of(procs(), procs()), 0, of(but(0), but(0)), api.OK}, {of(procs(), but(15)), 15, of(but(15), but(15)), api.OK},
		{roll.Roll{}, 0, roll.Roll{}, api.ErrNone}, {of([]int{0}, []int{0}), 15, of([]int{0}, []int{0}), api.ErrNone}, {of(but(7), but(7)), 7, of(but(7), but(7)), api.ErrNone},
		{roll.Roll{}, -1, roll.Roll{}, api.ErrRange}, {roll.Roll{}, 16, roll.Roll{}, api.ErrRange}, {of(procs(), procs()), -1, of(procs(), procs()), api.ErrRange},
	} {
		for _, limit := range limits {
			for _, phase := range phases(limit) {
				resigns(t, bar(limit, phase, c.r), c.p, bar(limit, phase, c.want), c.err)
				resigns(t, alting(limit, phase, c.r), c.p, alting(limit, phase, c.want), c.err)
			}
		}
	}
}

// P22.2: Offer: of who is enrolled, of who waits already, of who is not enrolled, and of what is no process, as long as a phase is left.
func TestOffer(t *testing.T) {
	for _, c := range []struct {
		r    roll.Roll
		p    int
		want roll.Roll
		err  api.Errno
	}{
		{of([]int{0}, nil), 0, of([]int{0}, []int{0}), api.OK}, {of([]int{15}, nil), 15, of([]int{15}, []int{15}), api.OK},
		{of([]int{2, 4}, []int{2}), 4, of([]int{2, 4}, []int{2, 4}), api.OK}, {of([]int{2, 4}, nil), 2, of([]int{2, 4}, []int{2}), api.OK},
		{of(procs(), nil), 15, of(procs(), []int{15}), api.OK}, {of(procs(), but(0)), 0, of(procs(), procs()), api.OK},
		{of([]int{0}, []int{0}), 0, of([]int{0}, []int{0}), api.ErrThere}, {of([]int{2, 4}, []int{2}), 2, of([]int{2, 4}, []int{2}), api.ErrThere}, {of(procs(), procs()), 15, of(procs(), procs()), api.ErrThere},
		{roll.Roll{}, 0, roll.Roll{}, api.ErrNone}, {of([]int{2, 4}, []int{2}), 3, of([]int{2, 4}, []int{2}), api.ErrNone}, {of(but(15), but(15)), 15, of(but(15), but(15)), api.ErrNone},
		{roll.Roll{}, -1, roll.Roll{}, api.ErrRange}, {roll.Roll{}, 16, roll.Roll{}, api.ErrRange}, {of(procs(), but(5)), 21, of(procs(), but(5)), api.ErrRange},
	} {
		for _, limit := range limits {
			for _, phase := range phases(limit) {
				if phase == limit {
					continue
				}
				offers(t, bar(limit, phase, c.r), c.p, false, bar(limit, phase, c.want), c.err)
				offers(t, alting(limit, phase, c.r), c.p, false, alting(limit, phase, c.want), c.err)
				offers(t, alting(limit, phase, c.r), c.p, true, alting(limit, phase, c.want), c.err)
			}
		}
	}
}

// P22.2: Offer by an alt, of a barrier that is not for that: whatever else is wrong with what is asked.
func TestOfferKind(t *testing.T) {
	for _, limit := range limits {
		for _, phase := range phases(limit) {
			for _, r := range []roll.Roll{{}, of([]int{0}, nil), of([]int{15}, []int{15}), of(procs(), but(0)), of(procs(), procs())} {
				for _, p := range []int{math.MinInt, -1, 0, 15, 16, math.MaxInt} {
					b := bar(limit, phase, r)
					offers(t, b, p, true, b, api.ErrKind)
				}
			}
		}
	}
}

// P22.2: Offer of a barrier whose phase is its limit, be its roll full or not: whoever offers, and whatever is wrong with that one.
func TestOfferLimit(t *testing.T) {
	for _, limit := range limits {
		for _, r := range []roll.Roll{{}, of([]int{0}, nil), of([]int{15}, []int{15}), of(procs(), but(0)), of(procs(), procs())} {
			for _, p := range []int{math.MinInt, -1, 0, 7, 15, 16, math.MaxInt} {
				b, a := bar(limit, limit, r), alting(limit, limit, r)
				offers(t, b, p, false, b, api.ErrLimit)
				offers(t, a, p, false, a, api.ErrLimit)
				offers(t, a, p, true, a, api.ErrLimit)
			}
		}
	}
}

// P22.2: Enrol, Resign and Offer of what is no process's number.
func TestRange(t *testing.T) {
	for _, no := range noProcs {
		for _, r := range rolls() {
			refused(t, bar(1, 0, r), no, api.ErrRange)
			refused(t, alting(final, 65534, r), no, api.ErrRange)
		}
	}
}

// P22.2, P22.3: barriers that may not be: that comes first, whatever else is wrong; they stay as they are, are not ready, and do not fire.
func TestWrong(t *testing.T) {
	for _, b := range wrong() {
		for _, p := range []int{math.MinInt, -1, 0, 2, 5, 15, 16, math.MaxInt} {
			refused(t, b, p, api.ErrArg)
			withdraws(t, b, p, b)
		}
		unfires(t, b, api.ErrArg)
	}
	refused(t, Bar{}, 0, api.ErrArg)
	unfires(t, Bar{}, api.ErrArg)
}

// P22.2: of several errors of an offer the one that is named first: one thing after the other is put right.
func TestOfferOrder(t *testing.T) {
	for _, c := range []struct {
		b   Bar
		p   int
		err api.Errno
	}{
		{bar(0, 0, roll.Roll{}), 16, api.ErrArg}, {bar(1, 2, roll.Roll{}), 16, api.ErrArg}, {bar(1, 1, of([]int{16}, nil)), 16, api.ErrArg},
		{bar(1, 1, roll.Roll{}), 16, api.ErrKind}, {bar(1, 0, roll.Roll{}), 16, api.ErrKind}, {bar(1, 1, of([]int{3}, nil)), 3, api.ErrKind},
		{alting(1, 1, roll.Roll{}), 16, api.ErrLimit}, {alting(1, 1, roll.Roll{}), 3, api.ErrLimit}, {alting(1, 1, of([]int{3}, []int{3})), 3, api.ErrLimit},
		{alting(1, 0, roll.Roll{}), 16, api.ErrRange}, {alting(1, 0, roll.Roll{}), 3, api.ErrNone}, {alting(1, 0, of([]int{3}, []int{3})), 3, api.ErrThere},
	} {
		offers(t, c.b, c.p, true, c.b, c.err)
	}
}

// P22.2: Withdraw: of who waits, be it at the limit or not; of who is enrolled and does not wait, of who is not enrolled, and of what is no process the barrier is as it was.
func TestWithdraw(t *testing.T) {
	for _, c := range []struct {
		r    roll.Roll
		p    int
		want roll.Roll
	}{
		{of([]int{0}, []int{0}), 0, of([]int{0}, nil)}, {of([]int{15}, []int{15}), 15, of([]int{15}, nil)},
		{of([]int{2, 4}, []int{2}), 2, of([]int{2, 4}, nil)}, {of([]int{2, 4}, []int{2, 4}), 4, of([]int{2, 4}, []int{2})},
		{of(procs(), procs()), 0, of(procs(), but(0))}, {of(procs(), procs()), 15, of(procs(), but(15))},
		{of([]int{2, 4}, []int{2}), 4, of([]int{2, 4}, []int{2})}, {of([]int{2, 4}, []int{2}), 3, of([]int{2, 4}, []int{2})}, {roll.Roll{}, 0, roll.Roll{}},
	} {
		for _, limit := range limits {
			for _, phase := range phases(limit) {
				withdraws(t, bar(limit, phase, c.r), c.p, bar(limit, phase, c.want))
				withdraws(t, alting(limit, phase, c.r), c.p, alting(limit, phase, c.want))
			}
		}
	}
	for _, no := range noProcs {
		for _, r := range rolls() {
			withdraws(t, alting(2, 1, r), no, alting(2, 1, r))
		}
	}
}

// P22.3: Ready: nobody is enrolled; nobody of those that are waits, one, all but one, all; each of limits' edges, and at the limit.
func TestReady(t *testing.T) {
	for _, c := range []struct {
		members, at []int
		full        bool
	}{
		{nil, nil, false}, {[]int{0}, nil, false}, {[]int{0}, []int{0}, true}, {[]int{15}, nil, false}, {[]int{15}, []int{15}, true},
		{[]int{2, 4}, nil, false}, {[]int{2, 4}, []int{2}, false}, {[]int{2, 4}, []int{4}, false}, {[]int{2, 4}, []int{2, 4}, true},
		{procs(), nil, false}, {procs(), []int{7}, false}, {procs(), but(0), false}, {procs(), but(15), false}, {procs(), procs(), true}, {but(7), but(7), true},
	} {
		for _, limit := range limits {
			for _, phase := range phases(limit) {
				want := c.full && phase != limit
				readies(t, bar(limit, phase, of(c.members, c.at)), want)
				readies(t, alting(limit, phase, of(c.members, c.at)), want)
			}
			for _, phase := range noPhases(limit) {
				readies(t, bar(limit, phase, of(c.members, c.at)), false)
			}
		}
		for _, limit := range noLimits {
			readies(t, bar(limit, 0, of(c.members, c.at)), false)
			readies(t, bar(limit, limit-1, of(c.members, c.at)), false)
		}
	}
}

// P22.3: Fire: all that waited are told, rising, in whatever order they came; they stay enrolled, nobody waits, and the phase is one more.
func TestFire(t *testing.T) {
	for _, l := range groups() {
		if len(l) == 0 {
			continue
		}
		for _, limit := range limits {
			for _, phase := range phases(limit) {
				if phase < limit {
					fires(t, bar(limit, phase, of(l, l)), bar(limit, phase+1, of(l, nil)), l, api.OK)
					fires(t, alting(limit, phase, of(l, l)), alting(limit, phase+1, of(l, nil)), l, api.OK)
				}
			}
		}
	}
	for seed := range int64(50) {
		b := alting(7, 5, of(procs(), nil))
		for i, p := range rand.New(rand.NewSource(seed)).Perm(last + 1) {
			unfires(t, b, api.ErrState)
			b, _ = Offer(b, p, i%2 == 0)
		}
		fires(t, b, alting(7, 6, of(procs(), nil)), procs(), api.OK)
	}
}

// P22.3: Fire: where nobody is enrolled, where somebody is missing, and where the phase is its limit, be its roll full or not.
func TestFireErrors(t *testing.T) {
	for _, limit := range limits {
		for _, r := range rolls() {
			unfires(t, bar(limit, limit, r), api.ErrState)
			unfires(t, alting(limit, limit, r), api.ErrState)
			if r.Members == (bitset.Set{}) || r.Members != r.At {
				unfires(t, bar(limit, limit-1, r), api.ErrState)
				unfires(t, alting(limit, 0, r), api.ErrState)
			}
		}
	}
}

// P22.3: what Fire tells is the caller's own: who writes to it changes no other answer.
func TestFireAnew(t *testing.T) {
	b := bar(2, 1, of([]int{2, 4, 9}, []int{2, 4, 9}))
	_, a, _ := Fire(b)
	_, c, _ := Fire(b)
	for i := range a {
		a[i] = -7
	}
	_ = append(a, -8)
	if !slices.Equal(c, []int{2, 4, 9}) {
		t.Errorf("another answer: %v", c)
	}
	fires(t, b, bar(2, 2, of([]int{2, 4, 9}, nil)), []int{2, 4, 9}, api.OK)
}

// P22.1, P22.2, P22.3: barriers of all sorts of limits, phases and rolls, such as may be and such as may not: held against second readings of the chapter.
func TestEvery(t *testing.T) {
	numbers := []int{math.MinInt, -1, 0, 2, 3, 7, 15, 16, 64, math.MaxInt}
	for _, limit := range slices.Concat(limits, noLimits) {
		for _, phase := range []int{math.MinInt, -1, 0, 1, limit - 1, limit, limit + 1, math.MaxInt} { // limit and 1 may be beyond the greatest int: no phase either
			for _, r := range few() {
				every(t, bar(limit, phase, r), numbers...)
				every(t, alting(limit, phase, r), numbers...)
			}
		}
	}
}

// P22.2, P22.3: each of all groups of processes is enrolled: nobody of it waits, all but one, and all.
func TestGroups(t *testing.T) {
	for n := range uint64(1) << (last + 1) {
		members := bitset.Set{n}
		b := bar(3, 1, roll.Roll{Members: members, At: members})
		every(t, b, int(n)%(last+1))
		every(t, bar(3, 3, b.Roll))
		every(t, bar(3, 2, roll.Roll{Members: members}))
		for _, p := range ids(members) {
			missing := bar(3, 1, roll.Roll{Members: members, At: bitset.Set{n &^ (1 << p)}})
			withdraws(t, b, p, missing)
			readies(t, missing, false)
			offers(t, missing, p, false, b, api.OK)
		}
	}
}

// P22.1, P22.2, P22.3: barriers by chance, most of which may be, by numbers of all sizes.
func TestChance(t *testing.T) {
	r := rand.New(rand.NewSource(221))
	for range 20000 {
		limit := 1 + r.Intn(1+r.Intn(final))
		b := Bar{Conf: api.Barrier{Alting: r.Intn(2) == 0, Limit: limit}, Phase: r.Intn(limit + 1)}
		b.Roll.Members[0] = uint64(r.Intn(whole + 1))
		b.Roll.At[0] = b.Roll.Members[0]
		if r.Intn(3) > 0 {
			b.Roll.At[0] &= r.Uint64()
		}
		switch r.Intn(12) {
		case 0:
			b.Conf.Limit = int(r.Uint64()) >> r.Intn(64)
		case 1:
			b.Phase = int(r.Uint64()) >> r.Intn(64)
		case 2:
			b.Phase = limit
		case 3:
			b.Roll.Members[r.Intn(4)] ^= 1 << r.Intn(64)
		case 4:
			b.Roll.At[r.Intn(4)] ^= 1 << r.Intn(64)
		}
		every(t, b, r.Intn(last+1), r.Intn(last+5)-2, int(r.Uint64())>>r.Intn(64), noProcs[r.Intn(len(noProcs))])
	}
}

// watch is a barrier beside what was done to it: who has enrolled and not resigned, who has offered since, and how often it fired.
type watch struct {
	b       Bar
	belongs [last + 1]bool
	came    [last + 1]bool
	fired   int
}

// begin is a new barrier, to which nothing was done.
func begin(t *testing.T, alting bool, limit int) watch {
	t.Helper()
	b, e := New(api.Barrier{Alting: alting, Limit: limit})
	if e != api.OK {
		t.Fatal(limit, e)
	}
	return watch{b: b}
}

// The calls of a run.
const (
	enrol = iota
	resign
	offer
	offerAlting
	withdraw
	fire
)

// do makes one call of a run, and notes it; what it tells is held against the notes.
func (w *watch) do(t *testing.T, call, p int) {
	t.Helper()
	var e, want api.Errno
	switch call {
	case enrol:
		if w.belongs[p] {
			want = api.ErrThere
		}
		w.b, e = Enrol(w.b, p)
		w.belongs[p] = true
	case resign:
		if !w.belongs[p] {
			want = api.ErrNone
		}
		w.b, e = Resign(w.b, p)
		w.belongs[p], w.came[p] = false, false
	case offer, offerAlting:
		want = w.bars(p, call == offerAlting)
		w.b, e = Offer(w.b, p, call == offerAlting)
		w.came[p] = w.came[p] || want == api.OK
	case withdraw:
		w.b = Withdraw(w.b, p)
		w.came[p] = false
	case fire:
		w.fire(t)
	}
	if e != want {
		t.Fatalf("call %d of %d: %d; want %d", call, p, e, want)
	}
	w.holds(t)
}

// bars tells by the notes why a process may not offer.
func (w *watch) bars(p int, alting bool) api.Errno {
	switch {
	case alting && !w.b.Conf.Alting:
		return api.ErrKind
	case w.fired == w.b.Conf.Limit:
		return api.ErrLimit
	case !w.belongs[p]:
		return api.ErrNone
	case w.came[p]:
		return api.ErrThere
	}
	return api.OK
}

// fire fires the barrier: it may just if nobody that belongs is missing and it has not fired as often as it may; just those that belong are told, rising, belong as before, and have to come again.
func (w *watch) fire(t *testing.T) {
	t.Helper()
	after, who, e := Fire(w.b)
	if !w.whole() {
		if e != api.ErrState || who != nil || after != w.b {
			t.Fatalf("Fire(%v): %v, %v, %d", w.b, after, who, e)
		}
		return
	}
	var all []int
	for p, belongs := range w.belongs {
		if belongs {
			all = append(all, p)
		}
	}
	if e != api.OK || !slices.Equal(who, all) || after.Conf != w.b.Conf {
		t.Fatalf("Fire(%v): %v, %v, %d; want %v", w.b, after, who, e, all)
	}
	w.b, w.came = after, [last + 1]bool{}
	w.fired++
}

// whole tells whether it may fire: somebody belongs, none of those that do is missing, and a phase is left.
func (w *watch) whole() bool {
	return w.belongs != [last + 1]bool{} && w.belongs == w.came && w.fired < w.b.Conf.Limit
}

// holds fails, unless the barrier tells just what was noted.
func (w *watch) holds(t *testing.T) {
	t.Helper()
	fine(t, w.b, true)
	readies(t, w.b, w.whole())
	if w.b.Phase != w.fired {
		t.Fatalf("%v: it has fired %d times", w.b, w.fired)
	}
	for p := range last + 1 {
		if in(w.b.Roll.Members, p) != w.belongs[p] || in(w.b.Roll.At, p) != w.came[p] {
			t.Fatalf("%v: %d belongs: %v, came: %v", w.b, p, w.belongs[p], w.came[p])
		}
	}
}

// runs goes on with all runs of so many calls of two processes.
func runs(t *testing.T, w watch, many int) {
	t.Helper()
	if many == 0 {
		return
	}
	for call := enrol; call < fire; call++ {
		for _, p := range []int{0, 15} {
			on := w
			on.do(t, call, p)
			runs(t, on, many-1)
		}
	}
	w.do(t, fire, 0)
	runs(t, w, many-1)
}

// P22.4: all runs of five calls of two processes, at the limits 1 and 2: so many let the one barrier be spent, and the other one fire twice.
func TestShortRuns(t *testing.T) {
	for _, limit := range []int{1, 2} {
		runs(t, begin(t, false, limit), 5)
		runs(t, begin(t, true, limit), 5)
	}
}

// P22.4: long runs by chance, of few and of many processes, at limits that are reached and at such as are not: it fires as often as its limit tells, at most.
func TestRuns(t *testing.T) {
	r := rand.New(rand.NewSource(224))
	spent := 0
	for _, many := range []int{1, 2, 3, 5, 16} {
		for _, limit := range []int{1, 2, 3, 7, final} {
			for range 20 {
				w, who := begin(t, r.Intn(2) == 0, limit), r.Perm(last + 1)[:many]
				for range 200 {
					call := []int{enrol, enrol, resign, offer, offer, offerAlting, offer, withdraw, fire, fire}[r.Intn(10)]
					w.do(t, call, who[r.Intn(many)])
				}
				if w.fired == limit {
					spent++
				}
			}
		}
	}
	if spent == 0 {
		t.Error("no run came to its limit")
	}
}

// P22.4: round by round all that are enrolled come, in all sorts of orders, and go on together, till the limit; then nobody comes any more, and who is enrolled stays so.
func TestRounds(t *testing.T) {
	r := rand.New(rand.NewSource(2240))
	for _, l := range groups() {
		if len(l) == 0 {
			continue
		}
		for _, limit := range []int{1, 2, 5} {
			w := begin(t, true, limit)
			for _, p := range l {
				w.do(t, enrol, p)
			}
			for range limit {
				for _, i := range r.Perm(len(l)) {
					w.do(t, fire, 0)
					w.do(t, offer+i%2, l[i])
				}
				w.do(t, fire, 0)
			}
			if w.b != alting(limit, limit, of(l, nil)) {
				t.Fatalf("%v, behind %d rounds: %v", l, limit, w.b)
			}
			for _, p := range l {
				offers(t, w.b, p, false, w.b, api.ErrLimit)
				offers(t, w.b, p, true, w.b, api.ErrLimit)
			}
			unfires(t, w.b, api.ErrState)
		}
	}
}

// P22.4: the greatest limit is reached, firing by firing, and no further.
func TestLongest(t *testing.T) {
	b, _ := New(api.Barrier{Limit: final})
	b, _ = Enrol(b, 0)
	b, _ = Enrol(b, 15)
	for n := range final {
		b, _ = Offer(b, 15, false)
		b, _ = Offer(b, 0, false)
		after, who, e := Fire(b)
		if after != bar(final, n+1, of([]int{0, 15}, nil)) || !slices.Equal(who, []int{0, 15}) || e != api.OK {
			t.Fatalf("firing %d: %v, %v, %d", n+1, after, who, e)
		}
		b = after
	}
	offers(t, b, 0, false, b, api.ErrLimit)
	unfires(t, b, api.ErrState)
}

// P22.4: the last ones that are missing resign, one by one: it is ready once nobody is missing, be somebody left; who waits and resigns is not told by Fire.
func TestResigned(t *testing.T) {
	for many := range last + 2 {
		w := begin(t, false, 1)
		for p := range last + 1 {
			w.do(t, enrol, p)
		}
		for p := range many {
			w.do(t, offer, p)
		}
		for p := many; p <= last; p++ {
			readies(t, w.b, false)
			w.do(t, resign, p)
		}
		readies(t, w.b, many > 0)
		if many > 1 {
			w.do(t, resign, 0)
			fires(t, w.b, bar(1, 1, of(procs()[1:many], nil)), procs()[1:many], api.OK)
		}
	}
}

// P22.4: at its limit a barrier lets processes in, and go, and those that wait there be withdrawn, and fires for none of that.
func TestSpent(t *testing.T) {
	b := bar(1, 1, of([]int{2, 4}, []int{2}))
	unfires(t, b, api.ErrState)
	resigns(t, b, 4, bar(1, 1, of([]int{2}, []int{2})), api.OK)
	b, _ = Resign(b, 4)
	unfires(t, b, api.ErrState)
	enrols(t, b, 5, bar(1, 1, of([]int{2, 5}, []int{2})), api.OK)
	b, _ = Enrol(b, 5)
	withdraws(t, b, 2, bar(1, 1, of([]int{2, 5}, nil)))
	unfires(t, b, api.ErrState)
}
