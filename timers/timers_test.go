package timers

import (
	"math"
	"math/rand"
	"slices"
	"strconv"
	"testing"

	"becket/api"
)

// last is the last instant, as the chapters' words tell it.
const last = 1099511627776

// noInstants are numbers that are no instants: beside the first one and the last one, such as have an instant's bits within them, and the ends of the type.
var noInstants = []int{math.MinInt, math.MinInt + 5, -last - 1, -last, -1 << 32, -5, -2, -1, last + 1, last + 2, last + 5, 2 * last, 2*last + 5, 1 << 62, math.MaxInt - 1, math.MaxInt}

// list is a list without timers.
func list(t *testing.T, room int) *List {
	t.Helper()
	l, e := New(room)
	if l == nil || e != api.OK {
		t.Fatalf("New(%d): %v, %d", room, l, e)
	}
	return l
}

// added fails, unless Add gives that number.
func added(t *testing.T, l *List, at, who, want int) {
	t.Helper()
	if got, e := l.Add(at, who); got != want || e != api.OK {
		t.Fatalf("Add(%d, %d): %d, %d; want %d, 0", at, who, got, e, want)
	}
}

// refused fails, unless Add gives that error, and no number beside it.
func refused(t *testing.T, l *List, at int, want api.Errno) {
	t.Helper()
	if got, e := l.Add(at, 5); got != 0 || e != want {
		t.Fatalf("Add(%d, 5): %d, %d; want 0, %d", at, got, e, want)
	}
}

// dropped fails, unless Drop of each number gives that error.
func dropped(t *testing.T, l *List, want api.Errno, nos ...int) {
	t.Helper()
	for _, no := range nos {
		if e := l.Drop(no); e != want {
			t.Fatalf("Drop(%d): %d; want %d", no, e, want)
		}
	}
}

// has fails, unless those are the list's timers, in order.
func has(t *testing.T, l *List, want ...Timer) {
	t.Helper()
	if got := l.All(); !slices.Equal(got, want) || l.Len() != len(want) {
		t.Fatalf("%v, %d; want %v, %d", got, l.Len(), want, len(want))
	}
	var lead Timer
	if len(want) > 0 {
		lead = want[0]
	}
	if got, is := l.First(); got != lead || is != (len(want) > 0) {
		t.Fatalf("First: %v, %v; want %v, %v", got, is, lead, len(want) > 0)
	}
}

// due fails, unless just those timers are due, in order.
func due(t *testing.T, l *List, now int, want ...Timer) {
	t.Helper()
	if got := l.Due(now); !slices.Equal(got, want) {
		t.Fatalf("Due(%d): %v; want %v", now, got, want)
	}
}

// filled is a list of that room with timers of those deadlines, each one's Who 10 times its number.
func filled(t *testing.T, room int, deadlines ...int) *List {
	t.Helper()
	l := list(t, room)
	for i, at := range deadlines {
		added(t, l, at, 10*i+10, i+1)
	}
	return l
}

// timer is one of a list that was filled.
func timer(at, no int) Timer { return Timer{At: at, No: no, Who: 10 * no} }

// sorted are the timers of a list that was filled, told another way: each one comes in behind all that are not later.
func sorted(deadlines ...int) []Timer {
	var out []Timer
	for i, at := range deadlines {
		out = enter(out, timer(at, i+1))
	}
	return out
}

// enter is a list with a timer more: behind all that are not later.
func enter(ts []Timer, x Timer) []Timer {
	k := 0
	for k < len(ts) && ts[k].At <= x.At {
		k++
	}
	return slices.Insert(slices.Clone(ts), k, x)
}

// without is a list without the timer of a number.
func without(ts []Timer, no int) []Timer {
	return slices.DeleteFunc(slices.Clone(ts), func(t Timer) bool { return t.No == no })
}

// upTo are those of a list whose deadlines are not behind now.
func upTo(ts []Timer, now int) []Timer {
	return slices.DeleteFunc(slices.Clone(ts), func(t Timer) bool { return t.At > now })
}

// same are so many deadlines of one instant.
func same(at, many int) []int { return slices.Repeat([]int{at}, many) }

// The chapter's example.
func TestExample(t *testing.T) {
	l := filled(t, 3, 9, 5, 9)
	has(t, l, timer(5, 2), timer(9, 1), timer(9, 3))
}

// P6.1: New of rooms that may be, the edges among them: no timers, and just so much room.
func TestNew(t *testing.T) {
	for _, room := range []int{0, 1, 2, 3, 64, 255, 256, 1023, 1024} {
		l := list(t, room)
		has(t, l)
		for no := 1; no <= room; no++ {
			added(t, l, 7, no, no)
		}
		refused(t, l, 7, api.ErrFull)
		if l.Len() != room || len(l.All()) != room {
			t.Errorf("room %d: %d timers, %d told", room, l.Len(), len(l.All()))
		}
	}
}

// P6.1: New of rooms that may not be: no list beside the error.
func TestNewArg(t *testing.T) {
	for _, room := range []int{math.MinInt, math.MinInt + 1, -1 << 32, -1024, -2, -1, 1025, 1026, 2048, 1 << 16, 1 << 32, 1<<32 + 1, 1<<32 + 1024, math.MaxInt} {
		if l, e := New(room); l != nil || e != api.ErrArg {
			t.Errorf("New(%d): %v, %d; want nil, ErrArg", room, l, e)
		}
	}
}

// P6.1: numbers go on 1, 2, 3, whatever the deadlines are, and who waits is told as it was handed in.
func TestAdd(t *testing.T) {
	l := list(t, 9)
	added(t, l, 5, 70, 1)
	added(t, l, 0, 0, 2)
	added(t, l, last, -1, 3)
	added(t, l, 5, 70, 4)
	added(t, l, 1<<32+5, math.MaxInt, 5)
	added(t, l, last-1, math.MinInt, 6)
	has(t, l, Timer{0, 2, 0}, Timer{5, 1, 70}, Timer{5, 4, 70}, Timer{1<<32 + 5, 5, math.MaxInt}, Timer{last - 1, 6, math.MinInt}, Timer{last, 3, -1})
}

// P6.1: Add of what is no instant: nothing comes in, and no number is used up.
func TestAddRange(t *testing.T) {
	l := list(t, 3)
	for _, at := range noInstants {
		refused(t, l, at, api.ErrRange)
	}
	has(t, l)
	added(t, l, 5, 10, 1)
	for _, at := range noInstants {
		refused(t, l, at, api.ErrRange)
	}
	has(t, l, timer(5, 1))
	added(t, l, 4, 20, 2)
	has(t, l, timer(4, 2), timer(5, 1))
}

// P6.1: Add of a list that is full: nothing comes in, and no number is used up; a number that is no instant is told ahead of it.
func TestAddFull(t *testing.T) {
	for _, room := range []int{0, 1, 2, 7, 1024} {
		l := filled(t, room, same(5, room)...)
		want := sorted(same(5, room)...)
		for range 3 {
			for _, at := range []int{0, 4, 5, 6, last} {
				refused(t, l, at, api.ErrFull)
			}
			for _, at := range noInstants {
				refused(t, l, at, api.ErrRange)
			}
		}
		has(t, l, want...)
		if room == 0 {
			continue
		}
		dropped(t, l, api.OK, room)
		added(t, l, 5, 10*room+10, room+1)
		has(t, l, append(without(want, room), timer(5, room+1))...)
	}
}

// P6.1: a full list has room again, just for one, once a timer is dropped; numbers go on, and those that have gone are never given again.
func TestRoomAgain(t *testing.T) {
	l := filled(t, 2, 8, 9)
	next := 3
	for _, no := range []int{1, 3, 2, 4, 5, 7} {
		refused(t, l, 1, api.ErrFull)
		dropped(t, l, api.OK, no)
		added(t, l, next, 10*next, next)
		refused(t, l, 1, api.ErrFull)
		dropped(t, l, api.ErrNone, no)
		next++
	}
	has(t, l, timer(6, 6), timer(8, 8))
	dropped(t, l, api.OK, 8, 6)
	has(t, l)
	added(t, l, 1, 90, 9)
	has(t, l, timer(1, 9))
}

// P6.1: a list that was emptied is as one that is new, but that its numbers go on.
func TestEmptied(t *testing.T) {
	l := list(t, 3)
	for round := range 400 {
		no := 3*round + 1
		added(t, l, 5, 10*no, no)
		added(t, l, 4, 10*no+10, no+1)
		added(t, l, 5, 10*no+20, no+2)
		refused(t, l, 0, api.ErrFull)
		has(t, l, timer(4, no+1), timer(5, no), timer(5, no+2))
		dropped(t, l, api.OK, no+round%3, no+(round+1)%3, no+(round+2)%3)
		has(t, l)
		due(t, l, last)
	}
}

// P6.1: Drop of the first timer, of one in the middle, and of the last one: by their order, and by the order in which they came.
func TestDrop(t *testing.T) {
	for _, deadlines := range [][]int{
		{5}, {5, 6}, {6, 5}, {5, 5}, {1, 2, 3}, {3, 2, 1}, {2, 3, 1}, {4, 4, 4}, {0, last}, {last, 0, last, 0},
		{1, 2, 3, 4, 5, 6, 7, 8, 9}, {9, 8, 7, 6, 5, 4, 3, 2, 1}, {5, 1, 9, 5, 1, 9, 5, 1, 9}, same(7, 20),
		{1, 50, 2, 60, 70, 3, 4, 80, 90, 95, 96, 5, 6, 7}, // one that comes from below has to rise past where it is put
	} {
		want := sorted(deadlines...)
		for no := 1; no <= len(deadlines); no++ {
			l := filled(t, len(deadlines), deadlines...)
			dropped(t, l, api.OK, no)
			has(t, l, without(want, no)...)
			dropped(t, l, api.ErrNone, no)
			has(t, l, without(want, no)...)
			for other := 1; other <= len(deadlines); other++ {
				if other != no {
					dropped(t, l, api.OK, other)
				}
			}
			has(t, l)
		}
	}
}

// P6.1: Drop of numbers that are none: never given, gone, or not given yet; nothing changes, and the number that comes next is as it was.
func TestDropNone(t *testing.T) {
	l := list(t, 5)
	wrong := []int{math.MinInt, -1 << 32, -2, -1, 0, 4, 5, 6, 9, 10, 30, 1024, 1<<32 + 1, 1<<32 + 2, math.MaxInt}
	dropped(t, l, api.ErrNone, wrong...)
	dropped(t, l, api.ErrNone, 1, 2, 3)
	added(t, l, 9, 10, 1)
	added(t, l, 5, 20, 2)
	added(t, l, 4, 30, 3) // neither 4, 5 nor 9 is a number yet: they are deadlines
	dropped(t, l, api.ErrNone, wrong...)
	has(t, l, timer(4, 3), timer(5, 2), timer(9, 1))
	dropped(t, l, api.OK, 2)
	dropped(t, l, api.ErrNone, 2, 2)
	dropped(t, l, api.ErrNone, wrong...)
	has(t, l, timer(4, 3), timer(9, 1))
	added(t, l, 9, 40, 4)
	has(t, l, timer(4, 3), timer(9, 1), timer(9, 4))
	dropped(t, l, api.OK, 4)
}

// P6.1: each timer of the greatest list may be dropped, from either side, or from the middle on, with ErrNone behind it.
func TestDropGreatest(t *testing.T) {
	for _, from := range []int{0, 512, 1023} {
		l := list(t, 1024)
		var want []Timer
		for i := range 1024 {
			at := i * 389 % 257 // each deadline some four times
			added(t, l, at, 10*i+10, i+1)
			want = enter(want, timer(at, i+1))
		}
		refused(t, l, 0, api.ErrFull)
		for len(want) > 0 {
			no := want[min(from, len(want)-1)].No
			dropped(t, l, api.OK, no)
			want = without(want, no)
			if len(want)%101 == 0 {
				has(t, l, want...)
				due(t, l, 128, upTo(want, 128)...)
				dropped(t, l, api.ErrNone, no)
			}
		}
		added(t, l, 5, 10250, 1025)
		has(t, l, timer(5, 1025))
	}
}

// P6.2: what is asked of a list without timers.
func TestNone(t *testing.T) {
	for _, room := range []int{0, 1, 1024} {
		l := list(t, room)
		for range 2 {
			has(t, l)
			for _, now := range append([]int{0, 5, last}, noInstants...) {
				due(t, l, now)
			}
		}
	}
}

// P6.2: Due just at a deadline, one before it, and one behind it; nobody goes by it.
func TestDue(t *testing.T) {
	l := filled(t, 6, 9, 5, 9, 20, 5, 1<<32+5)
	a, b, c, d, e, f := timer(5, 2), timer(5, 5), timer(9, 1), timer(9, 3), timer(20, 4), timer(1<<32+5, 6)
	for range 2 {
		due(t, l, 0)
		due(t, l, 4)
		due(t, l, 5, a, b)
		due(t, l, 6, a, b)
		due(t, l, 8, a, b)
		due(t, l, 9, a, b, c, d)
		due(t, l, 10, a, b, c, d)
		due(t, l, 19, a, b, c, d)
		due(t, l, 20, a, b, c, d, e)
		due(t, l, 21, a, b, c, d, e)
		due(t, l, 1<<32+4, a, b, c, d, e)
		due(t, l, 1<<32+5, a, b, c, d, e, f)
		due(t, l, last, a, b, c, d, e, f)
		has(t, l, a, b, c, d, e, f)
	}
}

// P6.2: deadlines at the first instant and at the last one.
func TestDueEnds(t *testing.T) {
	l := filled(t, 4, last, 0, last, 0)
	due(t, l, 0, timer(0, 2), timer(0, 4))
	due(t, l, 1, timer(0, 2), timer(0, 4))
	due(t, l, last-1, timer(0, 2), timer(0, 4))
	due(t, l, last, timer(0, 2), timer(0, 4), timer(last, 1), timer(last, 3))
	dropped(t, l, api.OK, 2, 4)
	due(t, l, 0)
	due(t, l, last-1)
	due(t, l, last, timer(last, 1), timer(last, 3))
}

// P6.2: nobody is due at what is no instant, though it may be behind all deadlines.
func TestDueNoInstant(t *testing.T) {
	l := filled(t, 4, 0, 5, last, 0)
	for _, now := range noInstants {
		due(t, l, now)
	}
	has(t, l, timer(0, 1), timer(0, 4), timer(5, 2), timer(last, 3))
}

// P6.2: who has been dropped is due no more.
func TestDueDropped(t *testing.T) {
	l := filled(t, 3, 5, 5, 5)
	dropped(t, l, api.OK, 2)
	due(t, l, 5, timer(5, 1), timer(5, 3))
	dropped(t, l, api.OK, 1)
	due(t, l, 5, timer(5, 3))
	dropped(t, l, api.OK, 3)
	due(t, l, 5)
}

// P6.2: what All and Due answer is the caller's: writing to it, and appending to it, changes nothing; and it stays as it was.
func TestAnswersNew(t *testing.T) {
	for _, ask := range []func(l *List) []Timer{(*List).All, func(l *List) []Timer { return l.Due(9) }} {
		l := filled(t, 4, 9, 5, 7)
		want := []Timer{timer(5, 2), timer(7, 3), timer(9, 1)}
		a, b := ask(l), ask(l)
		clear(a)
		_ = append(a, Timer{1, 1, 1})
		_ = append(ask(l)[:1], Timer{1, 1, 1})
		has(t, l, want...)
		due(t, l, 9, want...)
		dropped(t, l, api.OK, 2)
		added(t, l, 0, 40, 4)
		if !slices.Equal(b, want) {
			t.Errorf("%v; want %v", b, want)
		}
	}
}

// P6.3: a nil list, and one that New did not give: ErrNil ahead of all else.
func TestNobodys(t *testing.T) {
	var none List
	for _, l := range []*List{nil, {}, new(List), &none} {
		for range 2 {
			for _, n := range append([]int{0, 1, 5, last}, noInstants...) {
				refused(t, l, n, api.ErrNil)
				dropped(t, l, api.ErrNil, n)
				due(t, l, n)
			}
			has(t, l)
		}
	}
}

// P6.4: timers of all runs of so many deadlines stand in order, and go on doing so as the first one goes, again and again.
func TestAllDeadlines(t *testing.T) {
	for _, c := range []struct{ many, kinds int }{{1, 1}, {2, 2}, {3, 3}, {4, 4}, {5, 5}, {6, 4}, {8, 2}} {
		total := 1
		for range c.many {
			total *= c.kinds
		}
		for code := range total {
			var deadlines []int
			for range c.many {
				deadlines = append(deadlines, code%c.kinds)
				code /= c.kinds
			}
			l, want := filled(t, c.many, deadlines...), sorted(deadlines...)
			for now := range c.kinds {
				due(t, l, now, upTo(want, now)...)
			}
			for ; len(want) > 0; want = want[1:] {
				has(t, l, want...)
				dropped(t, l, api.OK, want[0].No)
			}
			has(t, l)
		}
	}
}

// P6.4: many timers of one deadline go in the order in which they were added, those among them that came behind a drop too.
func TestOneDeadline(t *testing.T) {
	for _, at := range []int{0, 5, last} {
		l := filled(t, 1024, same(at, 1024)...)
		want := sorted(same(at, 1024)...)
		has(t, l, want...)
		for i := range 300 {
			no := want[i*7%len(want)].No
			dropped(t, l, api.OK, no)
			added(t, l, at, 10*(1025+i), 1025+i)
			want = append(without(want, no), timer(at, 1025+i))
		}
		has(t, l, want...)
		due(t, l, at, want...)
		due(t, l, at-1)
		for ; len(want) > 0; want = want[1:] {
			if got, is := l.First(); got != want[0] || !is {
				t.Fatalf("First: %v, %v; want %v", got, is, want[0])
			}
			dropped(t, l, api.OK, want[0].No)
		}
		has(t, l)
	}
}

// P6.4: deadlines that rise, fall, and go up and down, of the greatest list.
func TestGreatestOrder(t *testing.T) {
	for _, deadline := range []func(i int) int{
		func(i int) int { return i },
		func(i int) int { return last - i },
		func(i int) int { return i * 709 % 1024 },
		func(i int) int { return i / 2 << 31 },
		func(i int) int { return last * (i % 2) },
		func(i int) int { return i*i%37<<32 + i%3 },
	} {
		var deadlines []int
		for i := range 1024 {
			deadlines = append(deadlines, deadline(i))
		}
		l, want := filled(t, 1024, deadlines...), sorted(deadlines...)
		has(t, l, want...)
		for _, now := range []int{0, 1, 511, 1 << 32, last - 512, last - 1, last} {
			due(t, l, now, upTo(want, now)...)
		}
	}
}

// P6.4: two lists have nothing in common.
func TestTwoLists(t *testing.T) {
	a, b := list(t, 2), list(t, 2)
	added(t, a, 5, 10, 1)
	added(t, a, 4, 20, 2)
	has(t, b)
	added(t, b, 9, 10, 1)
	dropped(t, b, api.ErrNone, 2)
	dropped(t, a, api.OK, 1)
	has(t, b, timer(9, 1))
	has(t, a, timer(4, 2))
}

// model is a list told another way: its timers in order.
type model struct {
	room, last int
	timers     []Timer
}

// add, and drop, do to both what they say, and fail, unless the list answers what the model does.
func (m *model) add(t *testing.T, l *List, at, who int) {
	t.Helper()
	switch {
	case at < 0 || at > last:
		refused(t, l, at, api.ErrRange)
	case len(m.timers) == m.room:
		refused(t, l, at, api.ErrFull)
	default:
		m.last++
		m.timers = enter(m.timers, Timer{at, m.last, who})
		added(t, l, at, who, m.last)
	}
}

func (m *model) drop(t *testing.T, l *List, no int) {
	t.Helper()
	want := api.ErrNone
	if rest := without(m.timers, no); len(rest) < len(m.timers) {
		m.timers, want = rest, api.OK
	}
	dropped(t, l, want, no)
}

// look fails, unless the list answers what the model does.
func (m *model) look(t *testing.T, l *List) {
	t.Helper()
	has(t, l, m.timers...)
	for _, x := range m.timers {
		for now := max(x.At-1, 0); now <= min(x.At+1, last); now++ {
			due(t, l, now, upTo(m.timers, now)...)
		}
	}
	due(t, l, last, m.timers...)
}

// P6.1, P6.2, P6.4: all runs of so many calls of small lists.
func TestAllCalls(t *testing.T) {
	for _, c := range []struct{ room, deadlines, calls int }{{0, 2, 3}, {1, 2, 5}, {2, 2, 5}, {3, 2, 5}, {3, 3, 5}, {4, 1, 6}} {
		kinds := c.deadlines + c.calls
		total := 1
		for range c.calls {
			total *= kinds
		}
		for code := range total {
			l, m := list(t, c.room), &model{room: c.room}
			for i := range c.calls {
				kind := code % kinds
				code /= kinds
				if kind < c.deadlines {
					m.add(t, l, kind, i)
				} else {
					m.drop(t, l, kind-c.deadlines+1)
				}
			}
			m.look(t, l)
		}
	}
}

// P6.1, P6.2, P6.4: long runs of calls, of lists of many rooms, with deadlines that are near one another, and with such as are far.
func TestManyCalls(t *testing.T) {
	for _, room := range []int{0, 1, 2, 7, 60, 1024} {
		for _, span := range []int{1, 3, 40, last + 1} {
			t.Run(strconv.Itoa(room)+"."+strconv.Itoa(span), func(t *testing.T) { manyCalls(t, room, span) })
		}
	}
}

func manyCalls(t *testing.T, room, span int) {
	r := rand.New(rand.NewSource(int64(room*1000 + span%1000)))
	l, m := list(t, room), &model{room: room}
	for i := range 6000 {
		filling := i/1500%2 == 0 // so that the list is full for a while, and empty for a while
		n := r.Intn(8)
		switch {
		case n == 0:
			m.add(t, l, noInstants[r.Intn(len(noInstants))], i)
		case n < 3 || n < 6 && filling:
			m.add(t, l, r.Intn(span), r.Int()-r.Int())
		case n == 7 || len(m.timers) == 0:
			m.drop(t, l, r.Intn(m.last+3)-1)
		default:
			m.drop(t, l, m.timers[r.Intn(len(m.timers))].No)
		}
		if i%(room/8+1) == 0 { // the more timers there are, the longer a look takes
			has(t, l, m.timers...)
			now := r.Intn(span)
			due(t, l, now, upTo(m.timers, now)...)
		}
	}
	for len(m.timers) > 60 {
		m.drop(t, l, m.timers[r.Intn(len(m.timers))].No)
	}
	m.look(t, l)
}

// P6.4: from list to list the same calls have the same answers.
func TestSame(t *testing.T) {
	run := func() []Timer {
		var out []Timer
		l := list(t, 7)
		for i := range 60 {
			no, e := l.Add(i*i%11, i)
			out = append(out, Timer{no, int(e), int(l.Drop(i * 3 % 40))})
			first, _ := l.First()
			out = append(append(out, first), l.All()...)
			out = append(out, l.Due(i%11)...)
		}
		return out
	}
	first := run()
	for range 5 {
		if !slices.Equal(run(), first) {
			t.Fatal("the same calls, other answers")
		}
	}
}
