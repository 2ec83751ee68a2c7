package ready

import (
	"fmt"
	"math"
	"math/big"
	"math/rand"
	"reflect"
	"slices"
	"testing"

	"becket/api"
	"becket/barrier"
	"becket/bartab"
	"becket/bitset"
	"becket/channel"
	"becket/chantab"
	"becket/claims"
	"becket/event"
	"becket/roll"
	"becket/timers"
)

// What the document tells: the last process, the strongest poison, the last phase, and the last instant.
const (
	lastProc  = 15
	lastLevel = 255
	lastPhase = 65535
	lastClock = 1 << 40
)

// far are numbers that are none of anything that a view has: the ends of int, and such as lose their height, or their sign, when they are cut to fewer bits, or are moved up by some.
var far = []int{math.MinInt, math.MinInt + 1, math.MinInt + 3, -1 << 62, -1 << 61, -1<<61 + 3, -1 << 60, -1 << 40, -1<<32 + 1, -1 << 32, -1 << 31, 1 << 31, 1 << 32, 1<<32 + 1, 1<<32 + 3, 1<<40 + 1, 1 << 60, 1<<60 + 3, 1 << 61, 1<<61 + 3, 1 << 62, math.MaxInt - 8, math.MaxInt - 1, math.MaxInt}

// Numbers that are no kinds of guards, and no processes.
var (
	noKinds = slices.Concat(far, []int{-65536, -256, -255, -250, -6, -5, -3, -2, -1, 0, 7, 8, 9, 10, 13, 14, 16, 32, 64, 128, 129, 255, 256, 257, 258, 259, 260, 261, 262, 65537, 65541})
	noProcs = slices.Concat(far, []int{-65536, -256, -253, -64, -17, -16, -13, -8, -3, -2, -1, 16, 17, 19, 31, 32, 64, 67, 255, 256, 259, 65536, 65539})
)

// noObjs are numbers of no channel, and of no barrier, where there are so many.
func noObjs(many int) []int {
	l := slices.Concat(far, []int{-65536, -256, -255, -64, -9, -8, -3, -2, -1})
	for _, n := range []int{many, many + 1, many + 8, 8, 9, 16, 64, 255, 256, 257, 65536, 65537} {
		if n >= many {
			l = append(l, n)
		}
	}
	return l
}

// Guards of the six kinds. The fields that readiness does not ask for are such as no guard may have.
func in(no, c int) api.Guard   { return api.Guard{Kind: 1, Obj: c, Val: math.MaxInt, Reg: -9, No: no} }
func out(no, c int) api.Guard  { return api.Guard{Kind: 2, Obj: c, Val: math.MinInt, Reg: 99, No: no} }
func bar(no, b int) api.Guard  { return api.Guard{Kind: 3, Obj: b, Val: -77, Reg: 8, No: no} }
func time(no int) api.Guard    { return api.Guard{Kind: 4, Obj: -5, Val: math.MaxInt, Reg: -1, No: no} }
func skip(no int) api.Guard    { return api.Guard{Kind: 5, Obj: 88, Val: 77, Reg: -1, No: no} }
func join(no, h int) api.Guard { return api.Guard{Kind: 6, Obj: -88, Val: h, Reg: 9, No: no} }

// waits are the guards of one that waits.
func waits(who int, l ...api.Guard) Wait { return Wait{Who: who, Guards: l} }

// all are those that wait.
func all(l ...Wait) []Wait { return l }

// Events of an object, and of a process.
func of(kind, obj int) event.Event     { return event.Event{Kind: kind, Obj: obj} }
func by(kind, who, no int) event.Event { return event.Event{Kind: kind, Who: who, No: no} }

// timer is a timer of a process and a guard.
func timer(at, who, no int) timers.Timer { return timers.Timer{At: at, Who: 8*who + no} }

// ends are which ends of a channel are shared.
type ends struct{ out, in bool }

// kinds are the ends that each kind has shared: OneOne, AnyOne, OneAny, AnyAny.
var kinds = []ends{{false, false}, {true, false}, {false, true}, {true, true}}

// chans is a list of channels.
func chans(l ...channel.Chan) []channel.Chan { return l }

// fresh is a channel in which nothing is, and at which nobody waits: its receivers' end bears 20, that of its senders 10.
func fresh(kind, room int) channel.Chan {
	return channel.Chan{Conf: api.Chan{Kind: kind, Room: room, In: 20, Out: 10}, Out: claims.Line{Shared: kinds[kind].out}, In: claims.Line{Shared: kinds[kind].in}}
}

// sends is a channel with these senders, each of which sends a hundred more than its number.
func sends(c channel.Chan, who ...int) channel.Chan {
	c.Out.Who, c.Vals = who, nil
	for _, p := range who {
		c.Vals = append(c.Vals, p+100)
	}
	return c
}

// gets is a channel with these receivers.
func gets(c channel.Chan, who ...int) channel.Chan {
	c.In.Who = who
	return c
}

// holds is a channel with so many values.
func holds(c channel.Chan, many int) channel.Chan {
	c.Values = make([]int, many)
	return c
}

// level is a channel with another level.
func level(c channel.Chan, n int) channel.Chan {
	c.Level = n
	return c
}

// bears is a channel whose ends bear something else.
func bears(c channel.Chan, in, out int) channel.Chan {
	c.Conf.In, c.Conf.Out = in, out
	return c
}

// bars is a list of barriers.
func bars(l ...barrier.Bar) []barrier.Bar { return l }

// procs are these processes.
func procs(l ...int) []int { return l }

// set has these ids: made bit by bit.
func set(ids []int) bitset.Set {
	var s bitset.Set
	for _, id := range ids {
		s[id>>6] |= 1 << (id & 63)
	}
	return s
}

// meet is a barrier on which these are enrolled, and at which those wait: its limit is 9, and its phase 3.
func meet(members, at []int) barrier.Bar {
	return barrier.Bar{Conf: api.Barrier{Limit: 9}, Roll: roll.Roll{Members: set(members), At: set(at)}, Phase: 3}
}

// phase is a barrier of another phase, and another limit.
func phase(b barrier.Bar, n, limit int) barrier.Bar {
	b.Phase, b.Conf.Limit = n, limit
	return b
}

// long is a list in memory of its own, in which more lies behind its end.
func long[T any](l []T, behind T) []T {
	return slices.Concat(l, []T{behind, behind})[: len(l) : len(l)+2]
}

// placed is a view whose lists lie within longer memory.
func placed(v View) View {
	odd := sends(gets(holds(fresh(3, 8), 1), 5), 3)
	v.Chans = long(v.Chans, odd)
	for i := range v.Chans {
		c := &v.Chans[i]
		c.Values, c.Vals, c.Out.Who, c.In.Who = long(c.Values, -73), long(c.Vals, -74), long(c.Out.Who, 3), long(c.In.Who, 5)
	}
	v.Bars = long(v.Bars, meet(procs(3), procs(3)))
	v.Waits = long(v.Waits, waits(3, skip(0)))
	for i := range v.Waits {
		v.Waits[i].Guards = long(v.Waits[i].Guards, skip(4))
	}
	v.Timers, v.Live = long(v.Timers, timer(0, 3, 5)), long(v.Live, 4096)
	return v
}

// memory is all of the memory of a view's lists, with what lies behind their ends, as it is now.
func memory(v View) View {
	v.Chans = slices.Clone(v.Chans[:cap(v.Chans)])
	for i := range v.Chans {
		c := &v.Chans[i]
		for _, l := range []*[]int{&c.Values, &c.Vals, &c.Out.Who, &c.In.Who} {
			*l = slices.Clone((*l)[:cap(*l)])
		}
	}
	v.Bars, v.Timers, v.Live = slices.Clone(v.Bars[:cap(v.Bars)]), slices.Clone(v.Timers[:cap(v.Timers)]), slices.Clone(v.Live[:cap(v.Live)])
	v.Waits = slices.Clone(v.Waits[:cap(v.Waits)])
	for i := range v.Waits {
		v.Waits[i].Guards = slices.Clone(v.Waits[i].Guards[:cap(v.Waits[i].Guards)])
	}
	return v
}

// kept is a view that lies within longer memory, and what fails, unless all of that is as it was.
func kept(t *testing.T, v View) (View, func(what string)) {
	t.Helper()
	own := placed(v)
	before := memory(own)
	return own, func(what string) {
		t.Helper()
		if after := memory(own); !reflect.DeepEqual(after, before) {
			t.Fatalf("%s: it has written to %+v: %+v", what, before, after)
		}
	}
}

// told fails, unless Events answers so, each time in new memory.
func told(t *testing.T, v View, want []event.Event) {
	t.Helper()
	for range 2 {
		got := Events(v)
		if !slices.Equal(got, want) {
			t.Fatalf("Events(%+v): %+v; want %+v", v, got, want)
		}
		for i := range got[:cap(got)] {
			got[:cap(got)][i] = by(-71, -72, -73)
		}
	}
}

// listed fails, unless Guards answers so, each time in new memory.
func listed(t *testing.T, v View, who int, want []int) {
	t.Helper()
	for range 2 {
		got := Guards(v, who)
		if !slices.Equal(got, want) {
			t.Fatalf("Guards(%+v, %d): %v; want %v", v, who, got, want)
		}
		for i := range got[:cap(got)] {
			got[:cap(got)][i] = -71
		}
	}
}

// answered fails, unless Which answers so.
func answered(t *testing.T, v View, who, no int, want event.Event, is bool) {
	t.Helper()
	if got, ok := Which(v, who, no); got != want || ok != is {
		t.Fatalf("Which(%+v, %d, %d): %+v, %v; want %+v, %v", v, who, no, got, ok, want, is)
	}
}

// happens fails, unless Events answers so, and leaves the view as it was.
func happens(t *testing.T, v View, want ...event.Event) {
	t.Helper()
	own, check := kept(t, v)
	told(t, own, want)
	check("Events")
}

// ready fails, unless Guards answers so, and leaves the view as it was.
func ready(t *testing.T, v View, who int, want ...int) {
	t.Helper()
	own, check := kept(t, v)
	listed(t, own, who, want)
	check("Guards")
}

// which fails, unless Which answers so, and leaves the view as it was.
func which(t *testing.T, v View, who, no int, want event.Event, is bool) {
	t.Helper()
	own, check := kept(t, v)
	answered(t, own, who, no, want, is)
	check("Which")
}

// may fails, unless a guard is ready, and that is its event.
func may(t *testing.T, v View, who, no int, want event.Event) {
	t.Helper()
	which(t, v, who, no, want, true)
	if !slices.Contains(Guards(v, who), no) {
		t.Fatalf("Guards(%+v, %d): without %d", v, who, no)
	}
}

// mayNot fails, unless a guard is not ready.
func mayNot(t *testing.T, v View, who, no int) {
	t.Helper()
	which(t, v, who, no, event.Event{}, false)
	if slices.Contains(Guards(v, who), no) {
		t.Fatalf("Guards(%+v, %d): with %d", v, who, no)
	}
}

// isLevel is a second reading of what a level is.
func isLevel(n int) bool { return n >= 0 && n <= lastLevel }

// hit is a second reading of when an end is hit.
func hit(c channel.Chan, bears int) bool {
	return isLevel(c.Level) && isLevel(bears) && c.Level > bears
}

// goes is a second reading of which moves may happen, by layer 18's numbers: 1 Pass, 2 Put, 3 Take.
func goes(c channel.Chan) []int {
	if !channel.Fine(c) {
		return nil
	}
	sends, gets := len(c.Out.Who) > 0 && !hit(c, c.Conf.Out), len(c.In.Who) > 0 && !hit(c, c.Conf.In)
	var l []int
	if c.Conf.Room == 0 && sends && gets {
		l = append(l, 1)
	}
	if c.Conf.Room > len(c.Values) && sends {
		l = append(l, 2)
	}
	if len(c.Values) > 0 && gets {
		l = append(l, 3)
	}
	return l
}

// full is a second reading of when a barrier is ready.
func full(b barrier.Bar) bool {
	return barrier.Fine(b) && b.Roll.Members != bitset.Set{} && b.Roll.Members == b.Roll.At && b.Phase < b.Conf.Limit
}

// isDue is a second reading of when a timer is due.
func isDue(v View, t timers.Timer) bool {
	return v.Now >= 0 && v.Now <= lastClock && t.At >= 0 && t.At <= v.Now
}

// belongs is a second reading of whether a timer is that of a process and a guard, with numbers of any size.
func belongs(t timers.Timer, who, no int) bool {
	n := new(big.Int).Mul(big.NewInt(8), big.NewInt(int64(who)))
	return n.Add(n, big.NewInt(int64(no))).Cmp(big.NewInt(int64(t.Who))) == 0
}

// moving is a second reading of a guard's move in its channel, which is there: 0, if there is none.
func moving(c channel.Chan, kind, who int) int {
	line, needs := c.In.Who, []int{1, 3}
	if kind == 2 {
		line, needs = c.Out.Who, []int{1, 2}
	}
	for _, move := range goes(c) {
		if slices.Contains(needs, move) && slices.Index(line, who) == 0 {
			return move
		}
	}
	return 0
}

// judged is a second reading of a guard's event, and of whether it is ready.
func judged(v View, who int, g api.Guard) (event.Event, bool) {
	switch g.Kind {
	case 1, 2:
		for i, c := range v.Chans {
			switch {
			case i != g.Obj:
			case hit(c, []int{0, c.Conf.In, c.Conf.Out}[g.Kind]):
				return by(5, who, g.No), true
			case moving(c, g.Kind, who) > 0:
				return of(1+moving(c, g.Kind, who), i), true
			}
		}
	case 3:
		for i, b := range v.Bars {
			if i == g.Obj && full(b) && slices.Contains(bitset.List(b.Roll.At), who) {
				return of(1, i), true
			}
		}
	case 4:
		for _, t := range v.Timers {
			if belongs(t, who, g.No) && isDue(v, t) {
				return by(6, who, g.No), true
			}
		}
	case 5:
		return by(8, who, g.No), true
	case 6:
		for _, h := range v.Live {
			if h == g.Val {
				return event.Event{}, false
			}
		}
		return by(7, who, g.No), true
	}
	return event.Event{}, false
}

// expected is a second reading of Events.
func expected(v View) []event.Event {
	var l []event.Event
	asks := func(kind int) {
		for _, w := range v.Waits {
			for _, g := range w.Guards {
				if e, is := judged(v, w.Who, g); is && e.Kind == kind {
					l = append(l, e)
				}
			}
		}
	}
	for i, b := range v.Bars {
		if full(b) {
			l = append(l, of(1, i))
		}
	}
	for i, c := range v.Chans {
		for _, move := range goes(c) {
			l = append(l, of(1+move, i))
		}
	}
	asks(5)
	for _, t := range v.Timers {
		if isDue(v, t) {
			l = append(l, by(6, t.Who/8, t.Who%8))
		}
	}
	asks(7)
	asks(8)
	return l
}

// every holds all calls of a view against second readings, of all that wait and of some who do not, and fails, unless the view is left as it was.
func every(t *testing.T, v View) {
	t.Helper()
	own, check := kept(t, v)
	told(t, own, expected(v))
	seen := map[int]bool{}
	for _, w := range v.Waits {
		if !seen[w.Who] {
			seen[w.Who] = true
			everyGuard(t, own, w)
		}
	}
	for _, who := range []int{-1, 0, 3, 5, 15, 16, math.MinInt, math.MaxInt} {
		if !seen[who] {
			listed(t, own, who, nil)
			answered(t, own, who, 0, event.Event{}, false)
		}
	}
	check("some call")
}

// everyGuard holds Guards and Which of one that waits against second readings, of its guards and of some numbers of none.
func everyGuard(t *testing.T, v View, w Wait) {
	t.Helper()
	var nos []int
	seen := map[int]bool{}
	for _, g := range w.Guards {
		e, is := judged(v, w.Who, g)
		if is {
			nos = append(nos, g.No)
		}
		if !seen[g.No] {
			seen[g.No] = true
			answered(t, v, w.Who, g.No, e, is)
		}
	}
	listed(t, v, w.Who, nos)
	for _, no := range []int{-1, 0, 1, 2, 3, 4, 5, 6, math.MinInt, math.MaxInt} {
		if !seen[no] {
			answered(t, v, w.Who, no, event.Event{}, false)
		}
	}
}

// both fails, unless P29.3 holds of a view: each guard is ready just if its event may happen, and each event that may happen is that of a guard that is ready. How many events there are of each kind is counted.
func both(t *testing.T, v View, count map[int]int) {
	t.Helper()
	may := Events(v)
	found := map[event.Event]bool{}
	for _, w := range v.Waits {
		nos := Guards(v, w.Who)
		for _, g := range w.Guards {
			e, is := Which(v, w.Who, g.No)
			if is != slices.Contains(nos, g.No) || is && !slices.Contains(may, e) || !is && slices.ContainsFunc(may, func(e event.Event) bool { return concerns(v, w.Who, g, e) }) {
				t.Fatalf("%+v: guard %d of %d: %+v, %v; Guards: %v; Events: %+v", v, g.No, w.Who, e, is, nos, may)
			}
			if is {
				found[e] = true
			}
		}
	}
	for _, e := range may {
		count[e.Kind]++
		if !found[e] || event.Check(e) != api.OK {
			t.Fatalf("%+v: %+v may happen, and is no event of a guard that is ready", v, e)
		}
	}
	if len(may) != len(found) {
		t.Fatalf("%+v: %+v: not each once", v, may)
	}
}

// concerns tells whether an event wakes one that waits by that guard, as layer 37 tells who is woken by it.
func concerns(v View, who int, g api.Guard, e event.Event) bool {
	switch e.Kind {
	case event.Fire:
		return g.Kind == api.Bar && g.Obj == e.Obj && bitset.Has(v.Bars[e.Obj].Roll.At, who)
	case event.Pass, event.Put, event.Take:
		_, m, _ := channel.Do(v.Chans[e.Obj], e.Kind-1)
		return g.Obj == e.Obj && (g.Kind == api.In && m.To == who || g.Kind == api.Out && m.From == who)
	}
	return e.Who == who && e.No == g.No
}

// Example 1 of the chapter: both guards are ready.
func TestExample(t *testing.T) {
	c, _ := channel.New(api.Chan{})
	c, _ = channel.Send(c, 3, 7)
	c, _ = channel.Recv(c, 5)
	v := View{Chans: chans(c), Waits: all(waits(3, api.Guard{Kind: api.Out, Val: 7}), waits(5, api.Guard{Kind: api.In}))}
	happens(t, v, of(event.Pass, 0))
	if s, e := event.Text(Events(v)[0]); s != "pass c0" || e != api.OK {
		t.Fatal(s, e)
	}
	ready(t, v, 3, 0)
	ready(t, v, 5, 0)
	which(t, v, 3, 0, of(event.Pass, 0), true)
	which(t, v, 5, 0, of(event.Pass, 0), true)
	every(t, v)
}

// A view of nothing, with lists that are nil and such as are empty: at any instant nothing may happen.
func TestNothing(t *testing.T) {
	for _, now := range slices.Concat(far, []int{-1, 0, 5, lastClock, lastClock + 1}) {
		for _, v := range []View{{Now: now}, {Now: now, Chans: chans(), Bars: bars(), Waits: all(), Timers: []timers.Timer{}, Live: procs()}} {
			if l := Events(v); len(l) != 0 {
				t.Fatalf("Events(%+v): %+v", v, l)
			}
			for _, who := range slices.Concat(noProcs, []int{0, 3, 15}) {
				ready(t, v, who)
				for _, no := range slices.Concat(far, []int{-1, 0, 5, 6}) {
					which(t, v, who, no, event.Event{}, false)
				}
			}
			every(t, v)
		}
	}
	every(t, View{Waits: all(waits(3), waits(5))})
	happens(t, View{Waits: all(waits(3), waits(5))})
	ready(t, View{Waits: all(waits(3), waits(5))}, 3)
}

// P29.2: a guard of each of the six kinds that is ready, and one that is not, of one process.
func TestSixKinds(t *testing.T) {
	v := View{
		Now: 9,
		Chans: chans(
			gets(holds(fresh(0, 2), 1), 3), gets(fresh(0, 2), 3), // taken; nothing is there
			sends(holds(fresh(0, 2), 1), 3), sends(holds(fresh(0, 2), 2), 3), // put; full
			gets(sends(fresh(0, 0), 5), 3), gets(fresh(0, 0), 3), // passed; nobody sends
		),
		Bars:   bars(meet(procs(3, 5), procs(3, 5)), meet(procs(3, 7), procs(3))),
		Timers: []timers.Timer{timer(9, 3, 8), timer(10, 3, 9)},
		Live:   procs(4096, 4099),
		Waits: all(waits(3, in(0, 0), in(1, 1), out(2, 2), out(3, 3), in(4, 4), in(5, 5), bar(6, 0), bar(7, 1), time(8), time(9), skip(10), join(11, 8195), join(12, 4099)),
			waits(5, out(0, 4), bar(1, 0))),
	}
	ready(t, v, 3, 0, 2, 4, 6, 8, 10, 11)
	ready(t, v, 5, 0, 1)
	want := []event.Event{0: of(event.Take, 0), 2: of(event.Put, 2), 4: of(event.Pass, 4), 6: of(event.Fire, 0), 8: by(event.Due, 3, 8), 10: by(event.Free, 3, 10), 11: by(event.Gone, 3, 11), 13: {}}
	for no, e := range want {
		which(t, v, 3, no, e, e != event.Event{})
	}
	which(t, v, 5, 0, of(event.Pass, 4), true)
	which(t, v, 5, 1, of(event.Fire, 0), true)
	every(t, v)
}

// P29.1, P29.2: channels of each kind, of each room, with each number of values, with and without a sender and a receiver.
func TestRooms(t *testing.T) {
	for kind := range kinds {
		for room := range 9 {
			for many := range room + 1 {
				for who := range 4 {
					c := holds(fresh(kind, room), many)
					var l []Wait
					if who&1 > 0 {
						c, l = sends(c, 3), append(l, waits(3, out(2, 1)))
					}
					if who&2 > 0 {
						c, l = gets(c, 5), append(l, waits(5, in(4, 1)))
					}
					v := View{Chans: chans(fresh(kind, room), c), Waits: l}
					var want []event.Event
					var sent, got event.Event
					switch {
					case room == 0 && who == 3:
						sent, got = of(event.Pass, 1), of(event.Pass, 1)
						want = append(want, sent)
					default:
						if who&1 > 0 && many < room {
							sent = of(event.Put, 1)
							want = append(want, sent)
						}
						if who&2 > 0 && many > 0 {
							got = of(event.Take, 1)
							want = append(want, got)
						}
					}
					happens(t, v, want...)
					which(t, v, 3, 2, sent, sent.Kind > 0)
					which(t, v, 5, 4, got, got.Kind > 0)
					every(t, v)
				}
			}
		}
	}
}

// P29.1, P29.2: each end hit, borne just now, and not poisoned, where Pass may happen, or Put and Take: who waits at an end that is hit is told of by Bane alone, and through it nothing goes; the other end waits on, where it needs both.
func TestPoison(t *testing.T) {
	edges := []int{0, 1, 2, 9, 127, 128, 254, 255}
	for _, n := range edges {
		for _, inEnd := range edges {
			for _, outEnd := range edges {
				for _, room := range []int{0, 2} {
					c := level(bears(gets(sends(holds(fresh(3, room), room/2), 3, 7), 5, 8), inEnd, outEnd), n)
					v := View{Chans: chans(c), Waits: all(waits(3, out(1, 0)), waits(5, in(2, 0)), waits(7, out(0, 0)), waits(8, in(3, 0)))}
					hitIn, hitOut := n > inEnd, n > outEnd
					var want []event.Event
					if room == 0 && !hitIn && !hitOut {
						want = append(want, of(event.Pass, 0))
					}
					if room > 0 && !hitOut {
						want = append(want, of(event.Put, 0))
					}
					if room > 0 && !hitIn {
						want = append(want, of(event.Take, 0))
					}
					if hitOut {
						want = append(want, by(event.Bane, 3, 1))
					}
					if hitIn {
						want = append(want, by(event.Bane, 5, 2))
					}
					if hitOut {
						want = append(want, by(event.Bane, 7, 0))
					}
					if hitIn {
						want = append(want, by(event.Bane, 8, 3))
					}
					happens(t, v, want...)
					which(t, v, 7, 0, map[bool]event.Event{true: by(event.Bane, 7, 0)}[hitOut], hitOut)
					which(t, v, 8, 3, map[bool]event.Event{true: by(event.Bane, 8, 3)}[hitIn], hitIn)
					every(t, v)
				}
			}
		}
	}
}

// P29.1, P29.2: what an end bears is its own: In is what the receivers' bears, Out what the senders'.
func TestPoisonEnds(t *testing.T) {
	c := gets(sends(fresh(0, 0), 3), 5) // its receivers' end bears 20, that of its senders 10
	l := all(waits(3, out(0, 0)), waits(5, in(1, 0)))
	for _, one := range []struct {
		level int
		want  []event.Event
	}{
		{0, []event.Event{of(event.Pass, 0)}},
		{10, []event.Event{of(event.Pass, 0)}},
		{11, []event.Event{by(event.Bane, 3, 0)}},
		{20, []event.Event{by(event.Bane, 3, 0)}},
		{21, []event.Event{by(event.Bane, 3, 0), by(event.Bane, 5, 1)}},
		{255, []event.Event{by(event.Bane, 3, 0), by(event.Bane, 5, 1)}},
	} {
		v := View{Chans: chans(level(c, one.level)), Waits: l}
		happens(t, v, one.want...)
		if one.level > 10 && one.level <= 20 { // the receiver is not hit, but nothing comes
			mayNot(t, v, 5, 1)
		}
		every(t, v)
	}
}

// P29.2: who waits by a guard at an end that is hit is woken, whichever place it has in the line, and even if the line does not know it.
func TestPoisonLine(t *testing.T) {
	c := level(gets(sends(fresh(3, 0), 3, 7), 5), lastLevel)
	l := all(waits(1, in(0, 0), out(1, 0)), waits(3, out(0, 0)), waits(5, in(0, 0)), waits(7, out(5, 0)), waits(math.MaxInt, in(math.MinInt, 0)))
	v := View{Chans: chans(c), Waits: l}
	happens(t, v, by(event.Bane, 1, 0), by(event.Bane, 1, 1), by(event.Bane, 3, 0), by(event.Bane, 5, 0), by(event.Bane, 7, 5), by(event.Bane, math.MaxInt, math.MinInt))
	ready(t, v, 1, 0, 1)
	may(t, v, math.MaxInt, math.MinInt, by(event.Bane, math.MaxInt, math.MinInt))
	every(t, v)
	v.Waits = nil // who waits in the channel alone has no guard
	happens(t, v)
}

// P29.2: the first one of a line goes on, and no other one; who stands in the other line, or in none, does not.
func TestLines(t *testing.T) {
	line := procs(7, 2, 15, 0)
	for kind, shared := range kinds {
		senders, receivers := line[:1], line[:1]
		if shared.out {
			senders = line
		}
		if shared.in {
			receivers = procs(0, 15, 2, 7)
		}
		for _, c := range []channel.Chan{fresh(kind, 0), holds(fresh(kind, 3), 1)} {
			c = gets(sends(c, senders...), receivers...)
			v := View{Chans: chans(c)}
			for who := range lastProc + 1 {
				v.Waits = append(v.Waits, waits(who, in(1, 0), out(2, 0)))
			}
			v.Waits = append(v.Waits, waits(-1, in(1, 0), out(2, 0)), waits(16, in(1, 0), out(2, 0)), waits(256+7, in(1, 0), out(2, 0)), waits(math.MaxInt, in(1, 0), out(2, 0)))
			for _, w := range v.Waits {
				var want []int
				if w.Who == receivers[0] {
					want = append(want, 1)
				}
				if w.Who == senders[0] {
					want = append(want, 2)
				}
				ready(t, v, w.Who, want...)
			}
			every(t, v)
		}
	}
}

// P29.2: a line whose first one is process 0 is not one in which nobody waits.
func TestLineEmpty(t *testing.T) {
	for kind := range kinds {
		v := View{Chans: chans(sends(fresh(kind, 0), 3), gets(fresh(kind, 0), 3), holds(fresh(kind, 1), 1), fresh(kind, 1)), Waits: all(waits(0, in(0, 0), out(1, 1), in(2, 2), out(3, 3)))}
		ready(t, v, 0)
		happens(t, v)
		v.Chans = chans(gets(v.Chans[0], 0), sends(v.Chans[1], 0), gets(v.Chans[2], 0), sends(v.Chans[3], 0))
		ready(t, v, 0, 0, 1, 2, 3)
		happens(t, v, of(event.Pass, 0), of(event.Pass, 1), of(event.Take, 2), of(event.Put, 3))
		every(t, v)
	}
}

// P29.1, P29.2: one process at both ends of a channel.
func TestBothEnds(t *testing.T) {
	v := View{Chans: chans(gets(sends(fresh(0, 0), 3), 3), gets(sends(holds(fresh(0, 2), 1), 3), 3)), Waits: all(waits(3, in(0, 0), out(1, 0), in(2, 1), out(3, 1)))}
	happens(t, v, of(event.Pass, 0), of(event.Put, 1), of(event.Take, 1))
	for no, want := range []event.Event{of(event.Pass, 0), of(event.Pass, 0), of(event.Take, 1), of(event.Put, 1)} {
		may(t, v, 3, no, want)
	}
	every(t, v)
}

// P29.1, P29.2: a barrier at which all are, one that lacks one, one at its limit, and one on which nobody is enrolled; who does not wait there is not ready, though the barrier is.
func TestBarriers(t *testing.T) {
	everybody := procs(0, 1, 2, 3, 4, 5, 6, 7, 8, 9, 10, 11, 12, 13, 14, 15)
	v := View{
		Bars: bars(
			meet(procs(3), procs(3)), meet(procs(3, 5), procs(3)), meet(procs(3, 5), procs(3, 5)),
			phase(meet(procs(3), procs(3)), 9, 9), phase(meet(procs(3), procs(3)), 8, 9), phase(meet(procs(3), procs(3)), lastPhase, lastPhase),
			meet(nil, nil), meet(procs(5), procs(5)), meet(everybody, everybody), meet(everybody, everybody[1:]), phase(meet(procs(3), procs(3)), 0, 1),
		),
	}
	for who := range lastProc + 1 {
		v.Waits = append(v.Waits, waits(who, bar(0, 0), bar(1, 1), bar(2, 2), bar(3, 3), bar(4, 4), bar(5, 5), bar(6, 6), bar(7, 7), bar(8, 8), bar(9, 9), bar(10, 10)))
	}
	happens(t, v, of(event.Fire, 0), of(event.Fire, 2), of(event.Fire, 4), of(event.Fire, 7), of(event.Fire, 8), of(event.Fire, 10))
	ready(t, v, 0, 8)
	ready(t, v, 3, 0, 2, 4, 8, 10)
	ready(t, v, 5, 2, 7, 8)
	ready(t, v, 15, 8)
	for no, is := range []bool{true, false, true, false, true, false, false, false, true, false, true} {
		want := event.Event{}
		if is {
			want = of(event.Fire, no)
		}
		which(t, v, 3, no, want, is)
	}
	every(t, v)
	v.Waits = nil // a barrier fires by its roll alone
	happens(t, v, of(event.Fire, 0), of(event.Fire, 2), of(event.Fire, 4), of(event.Fire, 7), of(event.Fire, 8), of(event.Fire, 10))
}

// P29.2: whether a barrier is for alts is not asked: who waits there has been taken.
func TestBarrierAlting(t *testing.T) {
	for _, alting := range []bool{false, true} {
		b := meet(procs(3), procs(3))
		b.Conf.Alting = alting
		v := View{Bars: bars(b), Waits: all(waits(3, bar(4, 0), skip(5)))}
		may(t, v, 3, 4, of(event.Fire, 0))
		every(t, v)
	}
}

// P29.1, P29.2: a timer that was due, one that is due just now, and one that is not; one that is not there; timers of other guards, and of other processes.
func TestTimers(t *testing.T) {
	v := View{Now: 9, Waits: all(waits(3, time(0), time(1), time(2), time(3)), waits(4, time(0), time(1), time(2), time(3)))}
	v.Timers = []timers.Timer{timer(0, 3, 0), timer(8, 4, 1), timer(9, 3, 2), timer(10, 3, 1), timer(10, 4, 0), timer(11, 4, 3)}
	happens(t, v, by(event.Due, 3, 0), by(event.Due, 4, 1), by(event.Due, 3, 2))
	ready(t, v, 3, 0, 2)
	ready(t, v, 4, 1)
	may(t, v, 3, 0, by(event.Due, 3, 0))
	may(t, v, 3, 2, by(event.Due, 3, 2))
	may(t, v, 4, 1, by(event.Due, 4, 1))
	for _, no := range []int{1, 3, 4} {
		mayNot(t, v, 3, no)
	}
	every(t, v)
	v.Now = 10
	happens(t, v, by(event.Due, 3, 0), by(event.Due, 4, 1), by(event.Due, 3, 2), by(event.Due, 3, 1), by(event.Due, 4, 0))
	ready(t, v, 3, 0, 1, 2)
	ready(t, v, 4, 0, 1)
	every(t, v)
}

// P29.2: the timer of each process and each guard is its own: no other one's makes it ready.
func TestTimerOwn(t *testing.T) {
	for who := range lastProc + 1 {
		for no := range 6 {
			v := View{Timers: []timers.Timer{{Who: 8*who + no, No: 77}}}
			for p := range lastProc + 1 {
				v.Waits = append(v.Waits, waits(p, time(0), time(1), time(2), time(3), time(4), time(5)))
			}
			happens(t, v, by(event.Due, who, no))
			for p := range lastProc + 1 {
				if p == who {
					ready(t, v, p, no)
					which(t, v, p, no, by(event.Due, who, no), true)
				} else {
					ready(t, v, p)
					which(t, v, p, no, event.Event{}, false)
				}
			}
		}
	}
}

// P29.1, P29.2: the instant's ends, and those of a timer: neither of an instant that may not be nor of a timer that has none anything is due.
func TestInstants(t *testing.T) {
	instants := slices.Concat(far, []int{-9, -1, 0, 1, 5, lastClock - 1, lastClock, lastClock + 1, 2 * lastClock})
	for _, now := range instants {
		for _, at := range instants {
			v := View{Now: now, Timers: []timers.Timer{timer(at, 3, 2)}, Waits: all(waits(3, time(2), skip(3)))}
			if now >= 0 && now <= lastClock && at >= 0 && at <= now {
				happens(t, v, by(event.Due, 3, 2), by(event.Free, 3, 3))
				ready(t, v, 3, 2, 3)
				which(t, v, 3, 2, by(event.Due, 3, 2), true)
			} else {
				happens(t, v, by(event.Free, 3, 3))
				ready(t, v, 3, 3)
				which(t, v, 3, 2, event.Event{}, false)
			}
		}
	}
}

// P29.2: a guard's Val is nothing to its readiness: its timer tells the instant. And where one has more than one timer, one that is due is enough, whichever place it has.
func TestTimerVal(t *testing.T) {
	for _, val := range slices.Concat(far, []int{-1, 0, 4, 5, 6}) {
		g := api.Guard{Kind: api.Time, Val: val, No: 1}
		for _, one := range []struct {
			at []int
			is bool
		}{{nil, false}, {procs(6), false}, {procs(5), true}, {procs(5, 6), true}, {procs(6, 5), true}, {procs(6, 7), false}, {procs(-1, 5), true}, {procs(6, 6, 6, 0), true}} {
			v := View{Now: 5, Waits: all(waits(2, g))}
			for _, at := range one.at {
				v.Timers = append(v.Timers, timer(at, 2, 1))
			}
			want := event.Event{}
			if one.is {
				want = by(event.Due, 2, 1)
			}
			which(t, v, 2, 1, want, one.is)
			every(t, v)
		}
	}
}

// P29.1: timers are told of in the order in which they stand, each as often as it does, be that by their instants or not; one that is not due ends nothing.
func TestTimersOrder(t *testing.T) {
	v := View{Now: 5, Timers: []timers.Timer{timer(5, 9, 0), timer(1, 2, 5), timer(7, 1, 1), timer(1, 2, 4), timer(-1, 1, 1), timer(0, 15, 5), timer(1, 2, 5), timer(5, 0, 0)}}
	happens(t, v, by(event.Due, 9, 0), by(event.Due, 2, 5), by(event.Due, 2, 4), by(event.Due, 15, 5), by(event.Due, 2, 5), by(event.Due, 0, 0))
	every(t, v)
}

// P29.1: timers of a guard that nobody has, of a process that does not wait, and of numbers that may not be: the event is told by the Who alone, of the process Who / 8, and the guard that is left.
func TestTimersWho(t *testing.T) {
	for _, one := range []struct{ who, p, no int }{
		{0, 0, 0}, {1, 0, 1}, {5, 0, 5}, {6, 0, 6}, {7, 0, 7}, {8, 1, 0}, {15, 1, 7}, {26, 3, 2}, {125, 15, 5}, {127, 15, 7}, {128, 16, 0}, {2051, 256, 3}, {65536, 8192, 0}, {1 << 31, 1 << 28, 0}, {1<<40 + 3, 1 << 37, 3}, {math.MaxInt, 1<<60 - 1, 7},
		{-1, 0, -1}, {-7, 0, -7}, {-8, -1, 0}, {-9, -1, -1}, {math.MinInt, -1 << 60, 0}, {math.MinInt + 1, -1<<60 + 1, -7},
	} {
		v := View{Timers: []timers.Timer{{Who: one.who}}}
		happens(t, v, by(event.Due, one.p, one.no))
		v.Waits = all(waits(one.p, time(one.no), time(one.no+1)))
		happens(t, v, by(event.Due, one.p, one.no))
		ready(t, v, one.p, one.no)
		may(t, v, one.p, one.no, by(event.Due, one.p, one.no))
		every(t, v)
	}
}

// P29.2: a timer is found by 8 times the process's number, and the guard's, whatever numbers these are, be that sum's parts far beyond it; and not by what is left of a sum that leaves its type.
func TestTimersAny(t *testing.T) {
	for _, one := range []struct {
		own, who, no int
		is           bool
	}{
		{25, 3, 1, true}, {25, 2, 9, true}, {25, 0, 25, true}, {25, 4, -7, true}, {25, -1, 33, true}, {25, -100, 825, true},
		{25, 3, 9, false}, {25, 3, -7, false}, {25, 3, 1 << 32, false}, {25, 3, 257, false}, {25, 2, 1, false}, {25, 1 << 32, 25, false},
		{25, 1 << 59, 25 - 1<<62, true}, {25, -1 << 59, 25 + 1<<62, true}, {25, 1 << 60, math.MinInt + 25, true},
		{math.MaxInt, 1<<60 - 1, 7, true}, {math.MaxInt, 1 << 60, -1, true}, {math.MaxInt, 1<<60 - 2, 15, true}, {math.MaxInt, 0, math.MaxInt, true},
		{math.MinInt, -1 << 60, 0, true}, {math.MinInt, -1<<60 - 1, 8, true}, {math.MinInt, -1<<60 + 1, -8, true}, {math.MinInt, 0, math.MinInt, true},
		{25, 1 << 61, 25, false}, {25, -1 << 61, 25, false}, {25, 1<<61 + 3, 1, false}, {25, -1<<61 + 3, 1, false}, {25, 1 << 62, 25, false}, {25, math.MinInt, 25, false}, {25, math.MinInt + 3, 1, false}, {25, 1<<62 + 2, 9, false}, {25, math.MaxInt, 33, false},
		{math.MinInt, 1 << 60, 0, false}, {math.MaxInt, -1<<60 - 1, 7, false}, {math.MinInt + 6, 1<<60 - 1, 14, false}, {math.MaxInt, -1 << 60, -1, false},
	} {
		v := View{Timers: []timers.Timer{{Who: one.own}}, Waits: all(waits(one.who, time(one.no)))}
		want := event.Event{}
		if one.is {
			want = by(event.Due, one.who, one.no)
			ready(t, v, one.who, one.no)
		} else {
			ready(t, v, one.who)
		}
		which(t, v, one.who, one.no, want, one.is)
		every(t, v)
	}
}

// P29.2: at all pairs of some numbers of processes and guards, to both ends of an int, and at timers whose Who is what is left of the sum when it leaves its type.
func TestTimersFar(t *testing.T) {
	numbers := slices.Concat(far, []int{-17, -9, -8, -7, -1, 0, 1, 3, 5, 6, 7, 8, 9, 15, 16, 31})
	for _, who := range numbers {
		for _, no := range numbers {
			v := View{Waits: all(waits(who, time(no)))}
			for _, n := range []int{8*who + no, 8*who + no + 1, 8*who + no - 8, no, who} {
				v.Timers = []timers.Timer{{Who: n}}
				is := belongs(v.Timers[0], who, no)
				want := event.Event{}
				if is {
					want = by(event.Due, who, no)
				}
				which(t, v, who, no, want, is)
			}
		}
	}
}

// P29.2: a guard of Join is ready just if its Val is none of Live, at whichever place, and however often, that is there.
func TestJoin(t *testing.T) {
	live := procs(4096, 8193, 4096, 4098, -7, 0, math.MaxInt, math.MinInt)
	for _, h := range slices.Concat(far, live, []int{-8, -1, 1, 4095, 4097, 8192, 8194, 12289}) {
		v := View{Live: live, Waits: all(waits(3, join(2, h)))}
		want := event.Event{}
		is := !slices.Contains(live, h)
		if is {
			want = by(event.Gone, 3, 2)
		}
		which(t, v, 3, 2, want, is)
		every(t, v)
		v.Live = nil
		may(t, v, 3, 2, by(event.Gone, 3, 2))
		v.Live = procs(h)
		mayNot(t, v, 3, 2)
	}
}

// P29.2: a guard of Skip is ready always, whatever else there is.
func TestSkip(t *testing.T) {
	for _, v := range []View{{}, {Now: -1}, {Now: lastClock + 1, Live: procs(0), Chans: chans(channel.Chan{Level: -1}), Bars: bars(barrier.Bar{})}} {
		v.Waits = all(waits(0, skip(0)), waits(15, skip(3), skip(5)))
		happens(t, v, by(event.Free, 0, 0), by(event.Free, 15, 3), by(event.Free, 15, 5))
		may(t, v, 15, 5, by(event.Free, 15, 5))
		ready(t, v, 15, 3, 5)
	}
}

// several is a view in which more than one of each part may happen, and more than one of each does not.
func several() View {
	one := fresh(0, 0)
	return View{
		Now: 50,
		Chans: chans(
			gets(sends(holds(fresh(3, 3), 1), 1, 2), 3, 4), // put, take
			gets(sends(one, 5), 6),                         // pass
			level(gets(sends(one, 7), 8), 15),              // the sender is hit
			gets(sends(holds(fresh(3, 3), 2), 9), 10),      // put, take
			level(gets(sends(fresh(3, 0), 1, 2), 3), 21),   // all are hit
			gets(sends(one, 11), 12),                       // pass
			sends(one, 13),                                 // nobody gets
		),
		Bars: bars(meet(procs(1, 2), procs(1)), meet(procs(3, 4), procs(3, 4)), meet(nil, nil), meet(procs(14), procs(14)), meet(procs(15), nil)),
		Waits: all(
			waits(1, out(0, 0), skip(1), bar(2, 0), out(3, 4), join(5, 4097)),
			waits(2, join(0, 4096), time(1), skip(2), out(4, 0), out(5, 4)),
			waits(3, in(0, 0), in(1, 4), bar(2, 1), time(3)),
			waits(4, in(1, 0), bar(3, 1), time(4), join(5, 99)),
			waits(5, out(0, 1)), waits(6, in(0, 1)), waits(7, skip(0), out(1, 2)), waits(8, in(2, 2)), waits(9, out(3, 3)), waits(10, in(4, 3)), waits(11, out(5, 5)), waits(12, in(0, 5)),
			waits(13, out(0, 6), join(1, 77), join(2, 4096), skip(3), skip(4)),
			waits(14, bar(1, 3), time(2), time(5)),
		),
		Timers: []timers.Timer{timer(3, 14, 5), timer(3, 2, 1), timer(50, 3, 3), timer(51, 4, 4), timer(51, 14, 2)},
		Live:   procs(4096, 4097, 4098),
	}
}

// P29.1: the order of the parts, with more than one of each: a channel's moves stand together, and those who leave, and those who wait for nothing, are told of one lot after the other.
func TestOrder(t *testing.T) {
	v := several()
	happens(t, v,
		of(event.Fire, 1), of(event.Fire, 3),
		of(event.Put, 0), of(event.Take, 0), of(event.Pass, 1), of(event.Put, 3), of(event.Take, 3), of(event.Pass, 5),
		by(event.Bane, 1, 3), by(event.Bane, 2, 5), by(event.Bane, 3, 1), by(event.Bane, 7, 1),
		by(event.Due, 14, 5), by(event.Due, 2, 1), by(event.Due, 3, 3),
		by(event.Gone, 4, 5), by(event.Gone, 13, 1),
		by(event.Free, 1, 1), by(event.Free, 2, 2), by(event.Free, 7, 0), by(event.Free, 13, 3), by(event.Free, 13, 4),
	)
	for who, want := range [][]int{nil, {0, 1, 3}, {1, 2, 5}, {0, 1, 2, 3}, {3, 5}, {0}, {0}, {0, 1}, nil, {3}, {4}, {5}, {0}, {1, 3, 4}, {1, 5}, nil} {
		ready(t, v, who, want...)
	}
	every(t, v)
	both(t, v, map[int]int{})
}

// P29.1, P29.2: who waits is told of in the order of Waits, and each one's guards in their own, be these rising or not.
func TestWaitsOrder(t *testing.T) {
	v := View{
		Chans: chans(level(fresh(0, 0), lastLevel)),
		Waits: all(waits(9, skip(4), in(5, 0), join(3, 1), skip(0), out(2, 0), join(1, 2)), waits(2, join(5, 1), skip(2), out(1, 0)), waits(5, skip(1), in(0, 0))),
	}
	happens(t, v,
		by(event.Bane, 9, 5), by(event.Bane, 9, 2), by(event.Bane, 2, 1), by(event.Bane, 5, 0),
		by(event.Gone, 9, 3), by(event.Gone, 9, 1), by(event.Gone, 2, 5),
		by(event.Free, 9, 4), by(event.Free, 9, 0), by(event.Free, 2, 2), by(event.Free, 5, 1))
	ready(t, v, 9, 4, 5, 3, 0, 2, 1)
	ready(t, v, 2, 5, 2, 1)
	ready(t, v, 5, 1, 0)
	every(t, v)
}

// P29.1, P29.2: guards of no kind are never ready, and nothing comes of them.
func TestNoKind(t *testing.T) {
	v := several()
	want := Events(View{Now: v.Now, Chans: v.Chans, Bars: v.Bars, Timers: v.Timers})
	for _, kind := range noKinds {
		var l []Wait
		for _, w := range v.Waits {
			own := slices.Clone(w.Guards)
			for i := range own {
				own[i].Kind = kind
			}
			l = append(l, waits(w.Who, own...))
			ready(t, View{Now: v.Now, Chans: v.Chans, Bars: v.Bars, Timers: v.Timers, Waits: l}, w.Who)
		}
		wrong := View{Now: v.Now, Chans: v.Chans, Bars: v.Bars, Timers: v.Timers, Waits: l}
		happens(t, wrong, want...)
		every(t, wrong)
	}
}

// P29.1, P29.2: guards of channels and of barriers that are not there are not ready, beside others that are.
func TestNotThere(t *testing.T) {
	hit := level(gets(sends(fresh(3, 0), 3), 3), lastLevel)
	for _, many := range []int{0, 1, 2, 8, 9, 20} {
		v := View{}
		for range many {
			v.Chans, v.Bars = append(v.Chans, hit), append(v.Bars, meet(procs(3), procs(3)))
		}
		for _, n := range noObjs(many) {
			v.Waits = all(waits(3, in(0, n), out(1, n), bar(2, n), skip(3)))
			ready(t, v, 3, 3)
			for no := range 3 {
				which(t, v, 3, no, event.Event{}, false)
			}
			every(t, v)
		}
		for n := range many { // and to the last one they are there
			v.Waits = all(waits(3, in(0, n), out(1, n), bar(2, n)))
			ready(t, v, 3, 0, 1, 2)
			which(t, v, 3, 0, by(event.Bane, 3, 0), true)
			which(t, v, 3, 2, of(event.Fire, n), true)
		}
	}
}

// P29.2: of guards of one number, the first one tells which event it is, and whether it is ready; Guards tells each.
func TestTwiceNo(t *testing.T) {
	v := View{Live: procs(7), Waits: all(waits(3, join(2, 7), skip(2), skip(4), join(4, 8), time(2), skip(0)))}
	ready(t, v, 3, 2, 4, 4, 0)
	which(t, v, 3, 2, event.Event{}, false)
	which(t, v, 3, 4, by(event.Free, 3, 4), true)
	happens(t, v, by(event.Gone, 3, 4), by(event.Free, 3, 2), by(event.Free, 3, 4), by(event.Free, 3, 0))
	v.Live = nil
	ready(t, v, 3, 2, 2, 4, 4, 0)
	which(t, v, 3, 2, by(event.Gone, 3, 2), true)
	every(t, v)
	v.Waits = all(waits(3, api.Guard{Kind: 0, No: 1}, skip(1)))
	which(t, v, 3, 1, event.Event{}, false)
	ready(t, v, 3, 1)
}

// P29.2: of a process that is there twice the first one of Waits counts, though it has no guards, and Events tells of both; a process that is not there waits for nothing, though channels, barriers and timers know it.
func TestTwiceWho(t *testing.T) {
	v := View{Waits: all(waits(5, skip(1)), waits(3, skip(0)), waits(3, skip(1), skip(0)), waits(5))}
	happens(t, v, by(event.Free, 5, 1), by(event.Free, 3, 0), by(event.Free, 3, 1), by(event.Free, 3, 0))
	ready(t, v, 3, 0)
	ready(t, v, 5, 1)
	which(t, v, 3, 1, event.Event{}, false)
	v.Waits = all(waits(3), waits(3, skip(0)))
	happens(t, v, by(event.Free, 3, 0))
	ready(t, v, 3)
	which(t, v, 3, 0, event.Event{}, false)
	v = several()
	for at, w := range v.Waits {
		one := v
		one.Waits = slices.Delete(slices.Clone(v.Waits), at, at+1)
		ready(t, one, w.Who)
		for _, g := range w.Guards {
			which(t, one, w.Who, g.No, event.Event{}, false)
		}
		every(t, one)
	}
}

// P29.1, P29.2: processes and guards whose numbers may not be, to both ends of an int: they are told by them, where nothing else is asked for; no line, and no barrier, has such a process.
func TestFar(t *testing.T) {
	nos := slices.Concat(far, []int{-65536, -256, -8, -1, 6, 7, 8, 9, 255, 256, 261, 65536})
	for _, who := range noProcs {
		for _, no := range nos {
			v := View{
				Live:  procs(4096),
				Chans: chans(level(fresh(3, 0), 30), gets(sends(fresh(3, 0), 0, 3), 0, 3)),
				Bars:  bars(meet(procs(0, 3), procs(0, 3))),
			}
			one := func(g api.Guard, is bool, kind int) {
				t.Helper()
				g.No = no
				v.Waits = all(waits(3, skip(0)), waits(who, g), waits(0, skip(0)))
				want := event.Event{}
				if is {
					want = by(kind, who, no)
					listed(t, v, who, []int{no})
				} else {
					listed(t, v, who, nil)
				}
				answered(t, v, who, no, want, is)
				if no == -8 {
					every(t, v)
				}
			}
			one(skip(0), true, event.Free)
			one(join(0, 1), true, event.Gone)
			one(join(0, 4096), false, 0)
			one(in(0, 0), true, event.Bane)
			one(out(0, 0), true, event.Bane)
			one(in(0, 1), false, 0)
			one(out(0, 1), false, 0)
			one(bar(0, 0), false, 0)
		}
		v := View{Waits: all(waits(0, skip(0)), waits(3, skip(0)))}
		ready(t, v, who)
		for _, no := range nos {
			which(t, v, who, no, event.Event{}, false)
			which(t, v, 3, no, event.Event{}, false)
		}
	}
}

// spoilt are channels that may not be, each because of one thing; were it not for that, 3 would send, and 5 receive.
func spoilt(room int) []channel.Chan {
	fine := gets(sends(holds(fresh(3, room), room/2), 3), 5)
	var l []channel.Chan
	add := func(change func(c *channel.Chan)) {
		c := placed(View{Chans: chans(fine)}).Chans[0]
		change(&c)
		l = append(l, c)
	}
	for _, n := range []int{math.MinInt, -1, 256, 1<<32 + 1, math.MaxInt} {
		add(func(c *channel.Chan) { c.Conf.Kind = n })
		add(func(c *channel.Chan) { c.Conf.Room = n })
		add(func(c *channel.Chan) { c.Conf.In = n })
		add(func(c *channel.Chan) { c.Conf.Out = n })
		add(func(c *channel.Chan) { c.Level = n })
		add(func(c *channel.Chan) {
			c.Out.Who = append(slices.Clone(c.Out.Who), n)
			c.Vals = append(slices.Clone(c.Vals), 1)
		})
		add(func(c *channel.Chan) { c.In.Who = append(slices.Clone(c.In.Who), n) })
	}
	add(func(c *channel.Chan) { c.Conf.Kind = 4 })
	add(func(c *channel.Chan) { c.Conf.Room = 9 })
	add(func(c *channel.Chan) { *c = holds(*c, room+1) })
	add(func(c *channel.Chan) { c.Vals = procs(1 << 31) })
	add(func(c *channel.Chan) { c.Vals = nil })
	add(func(c *channel.Chan) { c.Vals = procs(1, 2) })
	add(func(c *channel.Chan) { *c = sends(*c, 3, 3) })
	add(func(c *channel.Chan) { *c = gets(*c, 5, 5) })
	add(func(c *channel.Chan) { c.Out.Shared = false })
	add(func(c *channel.Chan) { c.In.Shared = false })
	return l
}

// P29.1, P29.2: in channels that may not be nothing moves, and beside them all goes on; an end of theirs is hit as layer 16 tells, which asks for the level and for what the end bears alone.
func TestSpoiltChannels(t *testing.T) {
	for _, room := range []int{0, 2} {
		fine := gets(sends(fresh(3, 0), 3), 5)
		for _, c := range spoilt(room) {
			v := View{Chans: chans(c, fine, c), Waits: all(waits(3, out(0, 0), out(1, 1), out(2, 2)), waits(5, in(0, 0), in(1, 1), in(2, 2)))}
			happens(t, v, of(event.Pass, 1))
			ready(t, v, 3, 1)
			ready(t, v, 5, 1)
			every(t, v)
			if c.Level != 0 {
				continue
			}
			v.Chans = chans(level(c, 30), fine, fine)
			var want []event.Event
			if isLevel(c.Conf.Out) {
				want = append(want, by(event.Bane, 3, 0))
			}
			if isLevel(c.Conf.In) {
				want = append(want, by(event.Bane, 5, 0))
			}
			happens(t, v, slices.Concat([]event.Event{of(event.Pass, 1), of(event.Pass, 2)}, want)...)
			every(t, v)
		}
	}
}

// P29.1, P29.2: barriers that may not be, each because of one thing, do not fire, and beside them all goes on.
func TestSpoiltBarriers(t *testing.T) {
	fine := meet(procs(3, 5), procs(3, 5))
	for _, n := range []int{math.MinInt, -1, 0, 65536, 1<<32 + 9, math.MaxInt} {
		l := bars(phase(fine, 0, n), phase(fine, n, n), phase(fine, 10, 9), phase(fine, math.MinInt, 9), phase(fine, -1, 9),
			meet(procs(3, 5, 16), procs(3, 5, 16)), meet(procs(3, 5, 255), procs(3, 5, 255)), meet(procs(3), procs(3, 5)), meet(nil, procs(3, 5)))
		for _, b := range l {
			v := View{Bars: bars(b, fine, b), Waits: all(waits(3, bar(0, 0), bar(1, 1), bar(2, 2)), waits(5, bar(0, 0), bar(1, 1), bar(2, 2)), waits(16, bar(0, 0), bar(1, 1)), waits(255, bar(0, 0)))}
			happens(t, v, of(event.Fire, 1))
			ready(t, v, 3, 1)
			ready(t, v, 5, 1)
			ready(t, v, 16)
			ready(t, v, 255)
			every(t, v)
		}
	}
}

// P29.1, P29.2: what a call answers does not hang on calls ahead of it: all calls of some views, one after the other, and again.
func TestAgain(t *testing.T) {
	views := []View{several(), {}, {Waits: all(waits(3, skip(0)))}, {Bars: bars(meet(procs(3), procs(3)))}}
	answers := func() string {
		text := ""
		for _, v := range views {
			text += fmt.Sprintln(Events(v))
			for who := range lastProc + 1 {
				text += fmt.Sprintln(Guards(v, who))
				for no := range 6 {
					e, is := Which(v, who, no)
					text += fmt.Sprintln(e, is)
				}
			}
		}
		return text
	}
	first := answers()
	slices.Reverse(views)
	_ = answers()
	slices.Reverse(views)
	if again := answers(); again != first {
		t.Fatalf("%s; at first %s", again, first)
	}
}

// Views of more than there may be of anything are views like others.
func TestLong(t *testing.T) {
	v := View{Now: 500}
	var want []event.Event
	for i := range 300 {
		v.Bars = append(v.Bars, meet(procs(i%16), procs(i%16)))
		want = append(want, of(event.Fire, i))
	}
	for i := range 300 {
		v.Chans = append(v.Chans, gets(sends(fresh(0, 0), i%16), (i+1)%16))
		want = append(want, of(event.Pass, i))
	}
	for i := range 300 {
		v.Timers = append(v.Timers, timer(i, i, i%8))
		want = append(want, by(event.Due, i, i%8))
	}
	for i := range 300 {
		v.Waits = append(v.Waits, waits(i, skip(i), out(i+1, i), in(i+2, i), bar(i+3, i)))
		want = append(want, by(event.Free, i, i))
	}
	happens(t, v, want...)
	every(t, v)
	ready(t, v, 3, 3, 4, 6)
	ready(t, v, 299, 299)
}

// anyOf is one of a list, by chance.
func anyOf[T any](r *rand.Rand, l ...T) T { return l[r.Intn(len(l))] }

// someProcs are some processes by chance, in any order.
func someProcs(r *rand.Rand, most int) []int { return r.Perm(lastProc + 1)[:r.Intn(most+1)] }

// anyChan is a channel by chance, that may be or, now and then, may not.
func anyChan(r *rand.Rand) channel.Chan {
	if r.Intn(8) == 0 {
		l := spoilt(anyOf(r, 0, 1, 2))
		return level(anyOf(r, l...), anyOf(r, 0, 0, 5, 30, 255))
	}
	kind, room := r.Intn(4), r.Intn(4)
	most := map[bool]int{false: 1, true: 4}
	c := sends(holds(fresh(kind, room), r.Intn(room+1)), someProcs(r, most[kinds[kind].out])...)
	return level(gets(c, someProcs(r, most[kinds[kind].in])...), anyOf(r, 0, 0, 10, 11, 20, 21))
}

// anyBar is a barrier by chance, that may be or, now and then, may not.
func anyBar(r *rand.Rand) barrier.Bar {
	members := someProcs(r, 3)
	at := members[:r.Intn(len(members)+1)]
	if r.Intn(2) == 0 {
		at = members
	}
	b := phase(meet(members, at), r.Intn(3), 2)
	if r.Intn(8) == 0 {
		b = anyOf(r, phase(b, 3, 2), phase(b, 0, 0), meet(procs(3, 17), procs(3, 17)), meet(procs(3), procs(3, 5)))
	}
	return b
}

// anyGuard is a guard by chance, that may be or, now and then, may not.
func anyGuard(r *rand.Rand) api.Guard {
	g := api.Guard{Kind: 1 + r.Intn(6), Obj: r.Intn(6), Val: r.Intn(6), Reg: r.Intn(8), No: r.Intn(6)}
	if r.Intn(20) == 0 {
		*anyOf(r, &g.Kind, &g.Obj, &g.Val, &g.No) = anyOf(r, far...)
	}
	if r.Intn(10) == 0 {
		*anyOf(r, &g.Kind, &g.Obj, &g.Val, &g.No) = r.Intn(20) - 5
	}
	return g
}

// anyView is a view by chance, in which nothing need fit.
func anyView(r *rand.Rand) View {
	v := View{Now: anyOf(r, 0, 1, 2, 3, 4, 5, lastClock, lastClock+1, -1)}
	for range r.Intn(6) {
		v.Chans = append(v.Chans, anyChan(r))
	}
	for range r.Intn(6) {
		v.Bars = append(v.Bars, anyBar(r))
	}
	for range r.Intn(8) {
		w := Wait{Who: r.Intn(lastProc + 1)}
		if r.Intn(10) == 0 {
			w.Who = anyOf(r, anyOf(r, far...), r.Intn(40)-20)
		}
		for range r.Intn(7) {
			w.Guards = append(w.Guards, anyGuard(r))
		}
		v.Waits = append(v.Waits, w)
		for _, g := range w.Guards {
			if g.Kind == api.Time && r.Intn(4) > 0 {
				v.Timers = append(v.Timers, timer(r.Intn(7)-1, w.Who, g.No))
			}
		}
	}
	for range r.Intn(4) {
		v.Timers = append(v.Timers, timers.Timer{At: anyOf(r, 0, 3, 5, -1, lastClock, lastClock+1), No: r.Intn(9), Who: anyOf(r, r.Intn(130), r.Intn(130), r.Intn(40)-20, anyOf(r, far...))})
	}
	for range r.Intn(5) {
		v.Live = append(v.Live, r.Intn(8)-1)
	}
	return v
}

// P29.1, P29.2: views by chance, in which nothing need fit: all calls are held against second readings of the chapter.
func TestChance(t *testing.T) {
	r := rand.New(rand.NewSource(29))
	count := map[int]int{}
	for range 10000 {
		v := anyView(r)
		every(t, v)
		for _, e := range Events(v) {
			count[e.Kind]++
		}
	}
	for kind := event.Fire; kind <= event.Free; kind++ {
		if count[kind] < 300 {
			t.Fatalf("too few of kind %d: %v", kind, count)
		}
	}
}

// world is a view whose channels and barriers know who waits, and how it is changed, by layers 18 to 23.
type world struct {
	View
	r *rand.Rand
}

// begin is a world by chance in which nobody waits.
func begin(t *testing.T, r *rand.Rand) *world {
	t.Helper()
	w := &world{View: View{Now: r.Intn(5)}, r: r}
	var confs []api.Chan
	for range r.Intn(9) {
		confs = append(confs, api.Chan{Kind: r.Intn(4), Room: anyOf(r, 0, 0, 1, 2, 3), In: r.Intn(4), Out: r.Intn(4)})
	}
	var limits []api.Barrier
	for range r.Intn(9) {
		limits = append(limits, api.Barrier{Limit: 1 + r.Intn(40)})
	}
	var e1, e2 api.Errno
	w.Chans, _, e1 = chantab.New(confs)
	w.Bars, _, e2 = bartab.New(limits)
	if e1 != api.OK || e2 != api.OK {
		t.Fatal(e1, e2)
	}
	for b := range w.Bars {
		for _, p := range someProcs(r, 3) {
			w.Bars, _ = bartab.Enrol(w.Bars, b, p)
		}
	}
	for p := range lastProc + 1 {
		if r.Intn(3) > 0 {
			w.Live = append(w.Live, 4096+p)
		}
	}
	return w
}

// guards are up to six of a process by chance that may stand together.
func (w *world) guards(p int) []api.Guard {
	var l []api.Guard
	for no := range 6 {
		g := api.Guard{Kind: anyOf(w.r, 1, 1, 2, 2, 3, 3, 3, 4, 5, 6), No: no}
		switch g.Kind {
		case api.In, api.Out:
			g.Obj = w.r.Intn(len(w.Chans) + 1)
		case api.Bar:
			g.Obj = w.r.Intn(len(w.Bars) + 1)
			if g.Obj < len(w.Bars) && !bitset.Has(w.Bars[g.Obj].Roll.Members, p) {
				continue
			}
		case api.Time:
			g.Val = w.Now + w.r.Intn(20)
		case api.Join:
			g.Val = 4096 + w.r.Intn(20)
		}
		if g.Kind == api.Skip && w.r.Intn(4) > 0 || w.r.Intn(2) == 0 || slices.ContainsFunc(l, func(a api.Guard) bool { return a.Kind == g.Kind && a.Obj == g.Obj }) {
			continue
		}
		l = append(l, g)
	}
	return l
}

// offer has one who does not wait do so, if its guards are taken.
func (w *world) offer(p int) {
	l := w.guards(p)
	at, there := slices.BinarySearchFunc(w.Waits, p, func(o Wait, p int) int { return o.Who - p })
	if there || len(l) == 0 {
		return
	}
	c, _, e1 := chantab.Offer(w.Chans, p, l, false)
	b, _, e2 := bartab.Offer(w.Bars, p, l, false)
	if e1 != api.OK || e2 != api.OK {
		return
	}
	w.Chans, w.Bars, w.Waits = c, b, slices.Insert(slices.Clone(w.Waits), at, Wait{Who: p, Guards: l})
	for _, g := range l {
		if g.Kind == api.Time {
			behind := slices.IndexFunc(w.Timers, func(o timers.Timer) bool { return o.At > g.Val })
			if behind < 0 {
				behind = len(w.Timers)
			}
			w.Timers = slices.Insert(slices.Clone(w.Timers), behind, timer(g.Val, p, g.No))
		}
	}
}

// wake has one wait no more.
func (w *world) wake(p int) {
	w.Chans, w.Bars = chantab.Leave(w.Chans, p), bartab.Leave(w.Bars, p)
	w.Waits = slices.DeleteFunc(slices.Clone(w.Waits), func(o Wait) bool { return o.Who == p })
	w.Timers = slices.DeleteFunc(slices.Clone(w.Timers), func(o timers.Timer) bool { return o.Who/8 == p })
}

// happen has an event happen, as layer 37 tells who is woken by it.
func (w *world) happen(t *testing.T, e event.Event) {
	t.Helper()
	var err api.Errno
	woken := procs(e.Who)
	switch e.Kind {
	case event.Fire:
		w.Bars, woken, err = bartab.Fire(w.Bars, e.Obj)
	case event.Pass, event.Put, event.Take:
		var m channel.Move
		w.Chans, m, err = chantab.Do(w.Chans, chantab.At{Chan: e.Obj, Move: e.Kind - 1})
		woken = procs(m.From, m.To)
	}
	if err != api.OK {
		t.Fatalf("%+v: %+v can't happen: %d", w.View, e, err)
	}
	for _, p := range woken {
		w.wake(p)
	}
}

// step changes a world in some way by chance.
func (w *world) step(t *testing.T) {
	t.Helper()
	switch n := w.r.Intn(20); {
	case n < 12:
		w.offer(w.r.Intn(lastProc + 1))
	case n < 14 && len(w.Chans) > 0 && w.r.Intn(10) == 0:
		w.Chans, _ = chantab.Poison(w.Chans, w.r.Intn(len(w.Chans)), 1+w.r.Intn(4))
	case n < 16:
		w.Now += w.r.Intn(4)
	case n < 17 && len(w.Live) > 0 && w.r.Intn(10) == 0:
		w.Live = slices.Delete(slices.Clone(w.Live), 0, 1)
	default:
		if l := Events(w.View); len(l) > 0 {
			w.happen(t, anyOf(w.r, l...))
		}
	}
}

// P29.3: in views whose channels and barriers know who waits, all that come by in long runs by chance: each guard is ready just if its event may happen, and each event that may happen is that of a guard that is ready.
func TestReadyIsEvent(t *testing.T) {
	r := rand.New(rand.NewSource(293))
	count := map[int]int{}
	for range 250 {
		w := begin(t, r)
		for range 150 {
			w.step(t)
			both(t, w.View, count)
			if w.r.Intn(20) == 0 {
				every(t, w.View)
			}
		}
	}
	for kind := event.Fire; kind <= event.Free; kind++ {
		if count[kind] < 500 {
			t.Fatalf("too few of kind %d: %v", kind, count)
		}
	}
}

// P29.3: of all views of one channel, one barrier and two processes, of which each waits for some of a few guards.
func TestReadyIsEventSmall(t *testing.T) {
	some := []api.Guard{{Kind: api.In, No: 0}, {Kind: api.Out, Val: 7, No: 1}, {Kind: api.Bar, No: 2}, {Kind: api.Time, Val: 5, No: 3}, {Kind: api.Skip, No: 4}, {Kind: api.Join, Val: 4096, No: 5}}
	count := map[int]int{}
	for lot := range 1 << 12 {
		for k := range 16 {
			w := &world{View: View{Now: 4 + k&1}}
			w.Chans, _, _ = chantab.New([]api.Chan{{Kind: api.AnyAny, Room: k >> 1 & 1, In: 2, Out: 1}})
			w.Bars, _, _ = bartab.New([]api.Barrier{{Limit: 1}})
			w.Bars, _ = bartab.Enrol(w.Bars, 0, 3)
			w.Bars, _ = bartab.Enrol(w.Bars, 0, 9)
			w.Chans[0].Level = lot % 4
			w.Chans[0].Values = make([]int, k>>1&1*(k>>3))
			if k>>2&1 > 0 {
				w.Live = procs(4096)
			}
			for i, p := range procs(3, 9) {
				w.stand(t, p, lot>>(6*i)&63, some)
			}
			both(t, w.View, count)
		}
	}
	for kind := event.Fire; kind <= event.Free; kind++ {
		if count[kind] < 300 {
			t.Fatalf("too few of kind %d: %v", kind, count)
		}
	}
}

// stand has one wait by some guards, that a lot's bits tell.
func (w *world) stand(t *testing.T, p, lot int, some []api.Guard) {
	t.Helper()
	var l []api.Guard
	for i, g := range some {
		if lot>>i&1 > 0 {
			l = append(l, g)
		}
	}
	if len(l) == 0 {
		return
	}
	var e1, e2 api.Errno
	w.Chans, _, e1 = chantab.Offer(w.Chans, p, l, false)
	w.Bars, _, e2 = bartab.Offer(w.Bars, p, l, false)
	if e1 != api.OK || e2 != api.OK {
		t.Fatal(e1, e2)
	}
	w.Waits = append(w.Waits, Wait{Who: p, Guards: l})
	for _, g := range l {
		if g.Kind == api.Time {
			w.Timers = append(w.Timers, timer(g.Val, p, g.No))
		}
	}
}
