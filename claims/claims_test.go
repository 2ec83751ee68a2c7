package claims

import (
	"math"
	"math/rand"
	"slices"
	"testing"

	"becket/api"
)

// last is the last process's number, as the document tells it.
const last = 15

// noProcs are numbers of no processes: beside the first one and the last one, such as become a process's when they are cut to fewer bits, or lose their sign, and the ends of int.
var noProcs = []int{math.MinInt, math.MinInt + 1, math.MinInt + 5, math.MinInt + 15, -1 << 32, -1<<32 + 5, -1 << 31, -65536, -65531, -257, -256, -251, -241, -32, -17, -16, -15, -11, -5, -2, -1, 16, 17, 18, 21, 31, 32, 100, 255, 256, 257, 261, 271, 65535, 65536, 65541, 1<<31 - 1, 1 << 31, 1<<32 - 1, 1 << 32, 1<<32 + 5, 1 << 62, math.MaxInt - 15, math.MaxInt - 1, math.MaxInt}

// both are what the end of a line may be: shared, or not.
var both = []bool{true, false}

// procs are the numbers of all processes.
func procs() []int {
	var l []int
	for p := range last + 1 {
		l = append(l, p)
	}
	return l
}

// asked are numbers of all processes, and of none.
func asked() []int { return slices.Concat(procs(), noProcs) }

// some are numbers of a few processes, and of none.
func some() []int { return slices.Concat([]int{0, 1, 5, 14, 15}, noProcs) }

// shared is a line at a shared end.
func shared(who ...int) Line { return Line{Shared: true, Who: who} }

// alone is a line at an end that is not shared.
func alone(who ...int) Line { return Line{Who: who} }

// orders are lines of all sixteen at a shared end: rising, falling, from the middle on, and mixed.
func orders() []Line {
	up := procs()
	down := slices.Clone(up)
	slices.Reverse(down)
	mixed := make([]int, len(up))
	for i, p := range up {
		mixed[i] = (p*7 + 3) % (last + 1)
	}
	return []Line{shared(up...), shared(down...), shared(slices.Concat(up[9:], up[:9])...), shared(mixed...)}
}

// parts are lines of the first so many of each of the orders, from none to all.
func parts() []Line {
	var out []Line
	for _, l := range orders() {
		for many := range len(l.Who) + 1 {
			out = append(out, shared(l.Who[:many:many]...))
		}
	}
	return out
}

// wrong are lines that may not be, of each kind.
func wrong() []Line {
	out := []Line{
		alone(0, 1), alone(3, 5), alone(15, 0), alone(1, 2, 3), alone(procs()...),
		shared(5, 5), alone(5, 5), shared(0, 0), shared(15, 15), shared(5, 3, 5), shared(3, 5, 5), shared(5, 5, 3), shared(1, 2, 3, 4, 1),
		shared(append(procs(), 0)...), shared(append(procs(), 15)...), shared(append([]int{7}, procs()...)...), shared(append(procs(), procs()...)...), alone(append(procs(), procs()...)...),
		shared(make([]int, 17)...), shared(make([]int, 1024)...),
	}
	for _, no := range noProcs {
		out = append(out, shared(no), alone(no), shared(no, 3, 5), shared(3, no, 5), shared(3, 5, no), alone(3, no), alone(no, 3), shared(no, no), shared(append(procs(), no)...))
	}
	return out
}

// same tells whether two lines are the same: a list that is nil is an empty one.
func same(a, b Line) bool { return a.Shared == b.Shared && slices.Equal(a.Who, b.Who) }

// may is a second reading of when a line may be.
func may(l Line) bool {
	var times [last + 1]int
	for _, p := range l.Who {
		if p < 0 || p > last {
			return false
		}
		times[p]++
	}
	return slices.Max(times[:]) < 2 && (l.Shared || len(l.Who) < 2)
}

// with is a list with one number more, at a place.
func with(l []int, at, n int) []int { return slices.Insert(slices.Clone(l), at, n) }

// without is a second reading of what Leave answers.
func without(l Line, p int) (Line, bool) {
	rest := Line{Shared: l.Shared}
	for _, one := range l.Who {
		if one != p {
			rest.Who = append(rest.Who, one)
		}
	}
	if !may(l) || len(rest.Who) == len(l.Who) {
		return l, false
	}
	return rest, true
}

// joined is a second reading of what Join answers.
func joined(l Line, p int) (Line, api.Errno) {
	if !may(l) {
		return l, api.ErrArg
	}
	if p < 0 || p > last {
		return l, api.ErrRange
	}
	if _, waits := without(l, p); waits {
		return l, api.ErrThere
	}
	if len(l.Who) == 1 && !l.Shared {
		return l, api.ErrBusy
	}
	return Line{Shared: l.Shared, Who: with(l.Who, len(l.Who), p)}, api.OK
}

// first is a second reading of what Head answers.
func first(l Line) (int, bool) {
	for _, p := range l.Who {
		if may(l) {
			return p, true
		}
	}
	return 0, false
}

// before is a second reading of what Ahead answers.
func before(l Line, p int) (int, bool) {
	for many := range l.Who {
		if may(l) && l.Who[many] == p {
			return many, true
		}
	}
	return 0, false
}

// kept is a line whose list lies within longer memory, and what fails, unless all of that memory is as it was, even where an answer is written to.
func kept(t *testing.T, l Line) (Line, func(what string, answer []int)) {
	t.Helper()
	memory := slices.Concat([]int{-71, -72}, l.Who, []int{-73, -74, -75, -76})
	before := slices.Clone(memory)
	l.Who = memory[2 : 2+len(l.Who)]
	return l, func(what string, answer []int) {
		t.Helper()
		for i := range answer {
			answer[i] = -81
		}
		_ = append(answer, -82, -83, -84)
		if !slices.Equal(memory, before) {
			t.Errorf("%s, and what is done to its answer: it has written to %v: %v", what, before, memory)
		}
	}
}

// fine fails, unless Fine answers so, and leaves its list as it was.
func fine(t *testing.T, l Line, want bool) {
	t.Helper()
	own, check := kept(t, l)
	if got := Fine(own); got != want {
		t.Errorf("Fine(%v): %v; want %v", l, got, want)
	}
	check("Fine", nil)
}

// joins fails, unless Join answers so, and leaves its list as it was; an answer without an error is in memory of its own.
func joins(t *testing.T, l Line, p int, want Line, err api.Errno) {
	t.Helper()
	own, check := kept(t, l)
	got, e := Join(own, p)
	if !same(got, want) || e != err {
		t.Errorf("Join(%v, %d): %v, %d; want %v, %d", l, p, got, e, want, err)
	}
	if e != api.OK {
		got.Who = nil
	}
	check("Join", got.Who)
}

// unjoins fails, unless Join answers that error, and the line that it was handed.
func unjoins(t *testing.T, l Line, p int, err api.Errno) {
	t.Helper()
	joins(t, l, p, l, err)
}

// leaves fails, unless Leave answers so, and leaves its list as it was; an answer that is told to be another line is in memory of its own.
func leaves(t *testing.T, l Line, p int, want Line, is bool) {
	t.Helper()
	own, check := kept(t, l)
	got, was := Leave(own, p)
	if !same(got, want) || was != is {
		t.Errorf("Leave(%v, %d): %v, %v; want %v, %v", l, p, got, was, want, is)
	}
	if !was {
		got.Who = nil
	}
	check("Leave", got.Who)
}

// heads fails, unless Head answers so, and leaves its list as it was.
func heads(t *testing.T, l Line, want int, is bool) {
	t.Helper()
	own, check := kept(t, l)
	if got, waits := Head(own); got != want || waits != is {
		t.Errorf("Head(%v): %d, %v; want %d, %v", l, got, waits, want, is)
	}
	check("Head", nil)
}

// aheads fails, unless Ahead answers so, and leaves its list as it was.
func aheads(t *testing.T, l Line, p, want int, is bool) {
	t.Helper()
	own, check := kept(t, l)
	if got, waits := Ahead(own, p); got != want || waits != is {
		t.Errorf("Ahead(%v, %d): %d, %v; want %d, %v", l, p, got, waits, want, is)
	}
	check("Ahead", nil)
}

// absent fails, unless Leave and Ahead tell that p does not wait, and no more.
func absent(t *testing.T, l Line, p int) {
	t.Helper()
	leaves(t, l, p, l, false)
	aheads(t, l, p, 0, false)
}

// every holds all calls of a line and a number against the second readings.
func every(t *testing.T, l Line, p int) {
	t.Helper()
	fine(t, l, may(l))
	more, e := joined(l, p)
	joins(t, l, p, more, e)
	rest, was := without(l, p)
	leaves(t, l, p, rest, was)
	who, is := first(l)
	heads(t, l, who, is)
	many, waits := before(l, p)
	aheads(t, l, p, many, waits)
}

// join is the line behind one who may join.
func join(t *testing.T, l Line, p int) Line {
	t.Helper()
	to, e := Join(l, p)
	if e != api.OK {
		t.Fatalf("Join(%v, %d): %d", l, p, e)
	}
	return to
}

// leave is the line behind one who waits.
func leave(t *testing.T, l Line, p int) Line {
	t.Helper()
	to, was := Leave(l, p)
	if !was {
		t.Fatalf("Leave(%v, %d): false", l, p)
	}
	return to
}

// served are all that wait, as one after the other is the head, and leaves.
func served(t *testing.T, l Line) []int {
	t.Helper()
	var out []int
	for range last + 1 {
		p, is := Head(l)
		if !is {
			break
		}
		out, l = append(out, p), leave(t, l, p)
	}
	heads(t, l, 0, false)
	return out
}

// ways are all lists of so many of these numbers, each as often as may be.
func ways(of []int, many int) [][]int {
	out := [][]int{nil}
	for range many {
		var next [][]int
		for _, l := range out {
			for _, n := range of {
				next = append(next, with(l, len(l), n))
			}
		}
		out = next
	}
	return out
}

// turns are all orders of these numbers.
func turns(of []int) [][]int {
	if len(of) == 0 {
		return [][]int{nil}
	}
	var out [][]int
	for _, rest := range turns(of[1:]) {
		for at := range len(rest) + 1 {
			out = append(out, with(rest, at, of[0]))
		}
	}
	return out
}

// The chapter's example.
func TestExample(t *testing.T) {
	l := join(t, shared(), 3)
	l = join(t, l, 5)
	l = leave(t, l, 3)
	heads(t, l, 5, true)
}

// P17.1: Fine: lines of none, one, two and all sixteen, shared and not.
func TestFine(t *testing.T) {
	for _, c := range []struct {
		l    Line
		want bool
	}{
		{Line{}, true}, {Line{Shared: true}, true}, {alone([]int{}...), true}, {shared([]int{}...), true},
		{alone(0), true}, {shared(0), true}, {alone(15), true}, {shared(15), true}, {alone(7), true}, {shared(7), true},
		{alone(0, 15), false}, {shared(0, 15), true}, {alone(15, 0), false}, {shared(15, 0), true}, {alone(3, 5), false}, {shared(3, 5), true}, {shared(5, 3), true},
		{alone(1, 2, 3), false}, {shared(3, 1, 2), true}, {shared(procs()...), true}, {alone(procs()...), false},
	} {
		fine(t, c.l, c.want)
	}
	for _, l := range parts() {
		fine(t, l, true)
		fine(t, alone(l.Who...), len(l.Who) < 2)
	}
}

// P17.1: Fine: numbers of all processes, and of none: alone, and in a line at the first place, in the middle and at the last one.
func TestFineNumbers(t *testing.T) {
	for _, c := range []struct {
		p    int
		want bool
	}{{-1, false}, {0, true}, {15, true}, {16, false}} {
		fine(t, shared(c.p), c.want)
		fine(t, alone(c.p), c.want)
		fine(t, shared(7, c.p), c.want)
		fine(t, shared(c.p, 7), c.want)
	}
	for _, p := range asked() {
		is := p >= 0 && p <= 15
		fine(t, shared(p), is)
		fine(t, alone(p), is)
	}
	for _, no := range noProcs {
		for _, l := range parts() {
			for _, at := range []int{0, len(l.Who) / 2, len(l.Who)} {
				fine(t, shared(with(l.Who, at, no)...), false)
				fine(t, alone(with(l.Who, at, no)...), false)
			}
		}
	}
}

// P17.1: Fine: one that waits twice, beside each other and far from each other: at all two places of lines of all lengths.
func TestFineTwice(t *testing.T) {
	for _, c := range [][]int{{5, 5}, {0, 0}, {15, 15}, {5, 5, 3}, {3, 5, 5}, {5, 3, 5}, {5, 3, 4, 6, 5}} {
		fine(t, shared(c...), false)
		fine(t, alone(c...), false)
	}
	for _, l := range parts() {
		for i := range l.Who {
			for k := range i {
				twice := slices.Clone(l.Who)
				twice[i] = twice[k]
				fine(t, shared(twice...), false)
			}
			for at := range len(l.Who) + 1 {
				fine(t, shared(with(l.Who, at, l.Who[i])...), false)
			}
		}
	}
}

// P17.1: Fine: lines longer than sixteen, and much longer ones.
func TestFineLong(t *testing.T) {
	for _, many := range []int{17, 18, 31, 32, 33, 256, 272, 65536, 65537} {
		for _, l := range orders() {
			who := make([]int, many)
			for i := range who {
				who[i] = l.Who[i%16]
			}
			fine(t, shared(who...), false)
			fine(t, alone(who...), false)
		}
		fine(t, shared(make([]int, many)...), false)
		fine(t, alone(make([]int, many)...), false)
	}
}

// P17.1: Join: onto none, and behind others; at an end that is not shared, onto none alone.
func TestJoin(t *testing.T) {
	for _, c := range []struct {
		l    Line
		p    int
		want Line
	}{
		{Line{}, 0, alone(0)}, {Line{}, 15, alone(15)}, {alone([]int{}...), 7, alone(7)},
		{shared(), 0, shared(0)}, {shared(), 15, shared(15)}, {shared([]int{}...), 7, shared(7)},
		{shared(3), 5, shared(3, 5)}, {shared(5), 3, shared(5, 3)}, {shared(0), 15, shared(0, 15)}, {shared(15), 0, shared(15, 0)},
		{shared(3, 5), 4, shared(3, 5, 4)}, {shared(5, 3), 0, shared(5, 3, 0)}, {shared(9, 1, 8, 2), 15, shared(9, 1, 8, 2, 15)},
	} {
		joins(t, c.l, c.p, c.want, api.OK)
	}
	for _, l := range orders() {
		for many, p := range l.Who {
			joins(t, shared(l.Who[:many]...), p, shared(l.Who[:many+1]...), api.OK)
			joins(t, alone(), p, alone(p), api.OK)
		}
	}
}

// P17.1: Join of one who waits already: at the first place, in the middle and at the last one.
func TestJoinThere(t *testing.T) {
	for _, l := range []Line{shared(7), alone(7), shared(7, 3), shared(3, 7), shared(7, 3, 5), shared(3, 7, 5), shared(3, 5, 7)} {
		unjoins(t, l, 7, api.ErrThere)
	}
	for _, p := range procs() {
		unjoins(t, shared(p), p, api.ErrThere)
		unjoins(t, alone(p), p, api.ErrThere)
	}
	for _, l := range parts() {
		for _, p := range l.Who {
			unjoins(t, l, p, api.ErrThere)
		}
	}
}

// P17.1: Join of a second one at an end that is not shared: whoever it is, and whoever waits.
func TestJoinBusy(t *testing.T) {
	for _, there := range procs() {
		for _, p := range procs() {
			if p != there {
				unjoins(t, alone(there), p, api.ErrBusy)
				joins(t, shared(there), p, shared(there, p), api.OK)
			}
		}
	}
}

// P17.1: Join of what is no process's number: onto none, behind one, behind many, and where the end has one already.
func TestJoinRange(t *testing.T) {
	for _, no := range noProcs {
		for _, l := range []Line{alone(), shared(), alone(0), alone(5), alone(15), shared(5), shared(3, 5), shared(procs()...)} {
			unjoins(t, l, no, api.ErrRange)
		}
	}
}

// P17.1: Join onto a line that may not be, and more than one error at once: the one that is named first is told.
func TestJoinErrors(t *testing.T) {
	for _, c := range []struct {
		l    Line
		p    int
		want api.Errno
	}{
		{alone(3, 5), 7, api.ErrArg}, {alone(3, 5), 3, api.ErrArg}, {alone(3, 5), 5, api.ErrArg}, {alone(3, 5), 16, api.ErrArg}, {alone(3, 5), -1, api.ErrArg},
		{shared(5, 5), 7, api.ErrArg}, {shared(5, 5), 5, api.ErrArg}, {shared(5, 5), 16, api.ErrArg}, {alone(5, 5), 5, api.ErrArg},
		{shared(16), 16, api.ErrArg}, {shared(-1), -1, api.ErrArg}, {alone(16), 16, api.ErrArg}, {alone(-1), -1, api.ErrArg}, {alone(16), 5, api.ErrArg}, {shared(-1), 5, api.ErrArg}, {shared(5, 16), 5, api.ErrArg},
		{alone(5), 16, api.ErrRange}, {alone(5), -1, api.ErrRange}, {shared(5), 16, api.ErrRange}, {alone(0), math.MinInt, api.ErrRange}, {alone(15), math.MaxInt, api.ErrRange},
		{alone(5), 5, api.ErrThere}, {alone(0), 0, api.ErrThere}, {alone(15), 15, api.ErrThere}, {alone(5), 6, api.ErrBusy},
	} {
		unjoins(t, c.l, c.p, c.want)
	}
	for _, l := range wrong() {
		for _, p := range some() {
			unjoins(t, l, p, api.ErrArg)
		}
	}
}

// P17.2: Leave and Ahead: p at the first place, in the middle, at the last one, and not there; of a line of none, one and many.
func TestLeaveAndAhead(t *testing.T) {
	for _, c := range []struct {
		l     Line
		p     int
		rest  Line
		ahead int
	}{
		{alone(7), 7, alone(), 0}, {shared(7), 7, shared(), 0}, {alone(0), 0, alone(), 0}, {alone(15), 15, alone(), 0},
		{shared(3, 5), 3, shared(5), 0}, {shared(3, 5), 5, shared(3), 1}, {shared(0, 15), 0, shared(15), 0}, {shared(0, 15), 15, shared(0), 1}, {shared(15, 0), 0, shared(15), 1},
		{shared(9, 1, 8), 9, shared(1, 8), 0}, {shared(9, 1, 8), 1, shared(9, 8), 1}, {shared(9, 1, 8), 8, shared(9, 1), 2},
		{shared(4, 0, 3, 1, 2), 3, shared(4, 0, 1, 2), 2}, {shared(4, 0, 3, 1, 2), 2, shared(4, 0, 3, 1), 4},
	} {
		leaves(t, c.l, c.p, c.rest, true)
		aheads(t, c.l, c.p, c.ahead, true)
	}
	for _, l := range []Line{alone(), shared(), alone(7), shared(7), shared(7, 8), shared(8, 7, 0)} {
		for _, p := range []int{1, 3, 6, 9, 15} {
			absent(t, l, p)
		}
	}
	absent(t, alone(), 0)
	absent(t, shared(), 0)
	absent(t, shared(7), 0)
}

// P17.2: Leave, Head and Ahead of lines of all lengths: of each that waits, of each that does not, and of what is no process.
func TestParts(t *testing.T) {
	for _, l := range parts() {
		for many, p := range l.Who {
			leaves(t, l, p, shared(slices.Concat(l.Who[:many], l.Who[many+1:])...), true)
			aheads(t, l, p, many, true)
			heads(t, l, l.Who[0], true)
		}
		for _, p := range asked() {
			if !slices.Contains(l.Who, p) {
				absent(t, l, p)
			}
		}
	}
}

// P17.2: Leave keeps whether the end is shared.
func TestLeaveShared(t *testing.T) {
	for _, p := range procs() {
		leaves(t, alone(p), p, alone(), true)
		leaves(t, shared(p), p, shared(), true)
		for _, no := range noProcs {
			absent(t, alone(p), no)
		}
	}
}

// P17.2: Head: of a line of none, of one, and of many, be it the least one or not.
func TestHead(t *testing.T) {
	for _, l := range []Line{{}, {Shared: true}, alone([]int{}...), shared([]int{}...)} {
		heads(t, l, 0, false)
	}
	for _, p := range procs() {
		heads(t, alone(p), p, true)
		heads(t, shared(p), p, true)
		for _, other := range procs() {
			if p != other {
				heads(t, shared(p, other), p, true)
			}
		}
	}
	for _, l := range orders() {
		heads(t, l, l.Who[0], true)
	}
}

// P17.2: Leave, Head and Ahead of lines that may not be: nobody is there, and the line stays.
func TestWrong(t *testing.T) {
	for _, l := range wrong() {
		heads(t, l, 0, false)
		fine(t, l, false)
		for _, p := range some() {
			absent(t, l, p)
		}
		for _, p := range l.Who[:min(len(l.Who), 20)] {
			absent(t, l, p)
		}
	}
}

// P17.1, P17.2: all lists of up to four of a few numbers, shared and not, by a few numbers: held against second readings of the chapter.
func TestEvery(t *testing.T) {
	few := []int{-1, 0, 1, 8, 15, 16}
	for many := range 5 {
		for _, who := range ways(few, many) {
			for _, is := range both {
				for _, p := range append([]int{math.MinInt, 2, 14, 17, math.MaxInt}, few...) {
					every(t, Line{Shared: is, Who: who}, p)
				}
			}
		}
	}
}

// P17.1, P17.2: all pairs of numbers in and around the processes', shared and not.
func TestPairs(t *testing.T) {
	for a := -3; a <= last+3; a++ {
		for b := -3; b <= last+3; b++ {
			for _, is := range both {
				for _, p := range []int{a, b, a + 1, -1, 0, 15, 16} {
					every(t, Line{Shared: is, Who: []int{a, b}}, p)
				}
				every(t, Line{Shared: is, Who: []int{a}}, b)
			}
		}
	}
}

// P17.1, P17.2: long lines by chance, most of which may be, and some with one number that spoils them.
func TestChance(t *testing.T) {
	r := rand.New(rand.NewSource(17))
	for range 3000 {
		l := Line{Shared: r.Intn(4) > 0, Who: r.Perm(last + 1)[:r.Intn(last+2)]}
		if len(l.Who) > 0 && r.Intn(4) == 0 {
			l.Who[r.Intn(len(l.Who))] = asked()[r.Intn(len(asked()))]
		}
		if r.Intn(8) == 0 {
			l.Who = append(l.Who, l.Who...)
		}
		every(t, l, r.Intn(last+3)-1)
	}
}

// P17.1, P17.2: two answers of one line share no memory, whatever room lies behind its list.
func TestAnswersOfTheirOwn(t *testing.T) {
	memory := []int{3, 5, 7, -1, -2, -3}
	l := shared(memory[:3]...)
	a, b := join(t, l, 8), join(t, l, 9)
	c, d := leave(t, l, 3), leave(t, l, 5)
	deep, other := join(t, a, 1), join(t, a, 2)
	for _, one := range []struct{ got, want Line }{
		{a, shared(3, 5, 7, 8)}, {b, shared(3, 5, 7, 9)}, {c, shared(5, 7)}, {d, shared(3, 7)}, {deep, shared(3, 5, 7, 8, 1)}, {other, shared(3, 5, 7, 8, 2)}, {l, shared(3, 5, 7)},
	} {
		if !same(one.got, one.want) {
			t.Errorf("%v; want %v", one.got, one.want)
		}
		for i := range one.got.Who {
			one.got.Who[i] = -9
		}
		_ = append(one.got.Who[:0], -8)
	}
}

// P17.3: all orders in which a few come, and whoever of them leaves, ahead of the others' coming and behind it: the rest is served as it came.
func TestOrders(t *testing.T) {
	few := []int{0, 3, 7, 14, 15}
	for _, order := range turns(few) {
		for gone := range 1 << len(few) {
			leaving := func(p int) bool { return gone>>slices.Index(few, p)&1 == 1 }
			at, late := shared(), shared()
			for _, p := range order {
				at, late = join(t, at, p), join(t, late, p)
				if leaving(p) {
					at = leave(t, at, p)
				}
			}
			for _, p := range few {
				if leaving(p) {
					late = leave(t, late, p)
				}
			}
			want := slices.DeleteFunc(slices.Clone(order), leaving)
			if a, b := served(t, at), served(t, late); !slices.Equal(a, want) || !slices.Equal(b, want) {
				t.Errorf("%v, without %b: %v, and late %v; want %v", order, gone, a, b, want)
			}
		}
	}
}

// P17.3: long runs by chance: each who joins draws a number, and the head is always who has the least one of those that wait; who leaves, and comes again, draws anew.
func TestServed(t *testing.T) {
	r := rand.New(rand.NewSource(173))
	for range 60 {
		l, drawn, drawer := shared(), map[int]int{}, 0
		for range 120 {
			p := r.Intn(last + 1)
			if _, waits := drawn[p]; waits {
				unjoins(t, l, p, api.ErrThere)
				l = leave(t, l, p)
				delete(drawn, p)
			} else {
				absent(t, l, p)
				l = join(t, l, p)
				drawer++
				drawn[p] = drawer
			}
			inTurn(t, l, drawn)
		}
	}
}

// inTurn fails, unless those that have drawn a number stand in the order of their numbers.
func inTurn(t *testing.T, l Line, drawn map[int]int) {
	t.Helper()
	if !Fine(l) || len(l.Who) != len(drawn) {
		t.Fatalf("%v; want %d that wait", l, len(drawn))
	}
	for p, no := range drawn {
		many := 0
		for _, other := range drawn {
			if other < no {
				many++
			}
		}
		aheads(t, l, p, many, true)
		if many == 0 {
			heads(t, l, p, true)
		}
	}
	if len(drawn) == 0 {
		heads(t, l, 0, false)
	}
}

// P17.3: one who leaves and comes again stands behind all that came in between.
func TestAgain(t *testing.T) {
	for _, l := range parts() {
		for at, p := range l.Who {
			again := join(t, leave(t, l, p), p)
			want := slices.Concat(l.Who[:at], l.Who[at+1:], []int{p})
			if got := served(t, again); !slices.Equal(got, want) {
				t.Errorf("%v, and %d again: %v; want %v", l, p, got, want)
			}
		}
	}
}

// P17.3: at an end that is not shared, a second one is let in once the first one has left.
func TestOneByOne(t *testing.T) {
	l := alone()
	for _, p := range []int{5, 3, 0, 15, 5, 5, 3} {
		l = join(t, l, p)
		heads(t, l, p, true)
		aheads(t, l, p, 0, true)
		unjoins(t, l, (p+1)%16, api.ErrBusy)
		absent(t, l, (p+1)%16)
		if l = leave(t, l, p); !same(l, alone()) {
			t.Errorf("behind %d: %v", p, l)
		}
	}
}
