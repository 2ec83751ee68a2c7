package offers

import (
	"math"
	"math/rand"
	"slices"
	"testing"

	"becket/api"
)

// What the document tells: the greatest room, the last process, and how many things one after the other have the same slot of layer 2 at most.
const (
	mostRoom = 1024
	last     = 15
	worn     = 65535
)

// The kinds of guards, as the document tells them.
const (
	in   = 1
	out  = 2
	bar  = 3
	till = 4
	skip = 5
	join = 6
)

// far are numbers that are far from all that is usual: the ends of int, and such as lose their height, or their sign, when they are cut to fewer bits.
var far = []int{math.MinInt, math.MinInt + 1, math.MinInt + 3, -1 << 62, -1 << 40, -1<<32 + 1, -1 << 32, -1 << 31, 1 << 31, 1 << 32, 1<<32 + 1, 1<<32 + 3, 1<<32 + 15, 1 << 40, 1 << 62, math.MaxInt - 1, math.MaxInt}

// noProcs are numbers that are no processes.
var noProcs = slices.Concat(far, []int{-65536, -256, -253, -64, -17, -16, -15, -3, -2, -1, 16, 17, 18, 19, 31, 32, 63, 64, 255, 256, 257, 259, 1024, 65536, 65537, 65539})

// noRooms are numbers that no table has as its room.
var noRooms = slices.Concat(far, []int{-65536, -65535, -1025, -1024, -1023, -16, -2, -1, 0, 1025, 1026, 1040, 2047, 2048, 4095, 4096, 4097, 65535, 65536, 65537, 66560})

// numbers are such as a field of a guard that the table takes may have: all may.
var numbers = slices.Concat(far, []int{-65536, -256, -2, -1, 0, 1, 2, 3, 4, 5, 6, 7, 8, 15, 16, 255, 256, 65536})

// by is a guard by its fields.
func by(kind, obj, val, reg, no int) api.Guard {
	return api.Guard{Kind: kind, Obj: obj, Val: val, Reg: reg, No: no}
}

// numbered are so many guards, numbered from 0 on, no two of which are of one Val.
func numbered(many int) []api.Guard {
	var l []api.Guard
	for no := range many {
		l = append(l, by(in+no%6, no%8, 3*no+1, no%7, no))
	}
	return l
}

// guards is a list of guards.
func guards(l ...api.Guard) []api.Guard { return l }

// offer is who waits by a guard.
func offer(who int, g api.Guard) Offer { return Offer{Who: who, Guard: g} }

// waits is a list of offers.
func waits(l ...Offer) []Offer { return l }

// table is a table of that room.
func table(t *testing.T, room int) *Table {
	t.Helper()
	o, e := New(room)
	if o == nil || e != api.OK {
		t.Fatalf("New(%d): %v, %d", room, o, e)
	}
	return o
}

// puts fails, unless Put takes them all in.
func puts(t *testing.T, o *Table, who int, l ...api.Guard) {
	t.Helper()
	for _, g := range l {
		if e := o.Put(who, g); e != api.OK {
			t.Fatalf("Put(%d, %+v): %d; want 0", who, g, e)
		}
	}
}

// putsNot fails, unless Put answers that error.
func putsNot(t *testing.T, o *Table, who int, g api.Guard, want api.Errno) {
	t.Helper()
	if e := o.Put(who, g); e != want {
		t.Fatalf("Put(%d, %+v): %d; want %d", who, g, e, want)
	}
}

// drops fails, unless Drop lets the offers of all these numbers go.
func drops(t *testing.T, o *Table, who int, nos ...int) {
	t.Helper()
	for _, no := range nos {
		if e := o.Drop(who, no); e != api.OK {
			t.Fatalf("Drop(%d, %d): %d; want 0", who, no, e)
		}
	}
}

// dropsNot fails, unless Drop answers that error.
func dropsNot(t *testing.T, o *Table, who, no int, want api.Errno) {
	t.Helper()
	if e := o.Drop(who, no); e != want {
		t.Fatalf("Drop(%d, %d): %d; want %d", who, no, e, want)
	}
}

// clears fails, unless Clear answers that there were so many.
func clears(t *testing.T, o *Table, who, want int) {
	t.Helper()
	if many := o.Clear(who); many != want {
		t.Fatalf("Clear(%d): %d; want %d", who, many, want)
	}
}

// of fails, unless Of answers just these.
func of(t *testing.T, o *Table, who int, want ...api.Guard) {
	t.Helper()
	if l := o.Of(who); !slices.Equal(l, want) {
		t.Fatalf("Of(%d): %+v; want %+v", who, l, want)
	}
}

// on fails, unless On answers just these.
func on(t *testing.T, o *Table, kind, obj int, want ...Offer) {
	t.Helper()
	if l := o.On(kind, obj); !slices.Equal(l, want) {
		t.Fatalf("On(%d, %d): %+v; want %+v", kind, obj, l, want)
	}
}

// counts fails, unless Len and Free answer that.
func counts(t *testing.T, o *Table, many, free int) {
	t.Helper()
	if l, f := o.Len(), o.Free(); l != many || f != free {
		t.Fatalf("Len, Free: %d, %d; want %d, %d", l, f, many, free)
	}
}

// plain is a table told by a plain list: all offers that are there, in the order in which they were put in.
type plain struct {
	room int
	all  []Offer
}

// of are a process's guards.
func (m *plain) of(who int) []api.Guard {
	var l []api.Guard
	for _, o := range m.all {
		if o.Who == who {
			l = append(l, o.Guard)
		}
	}
	return l
}

// on are all offers of a kind and an Obj.
func (m *plain) on(kind, obj int) []Offer {
	var l []Offer
	for _, o := range m.all {
		if o.Guard.Kind == kind && o.Guard.Obj == obj {
			l = append(l, o)
		}
	}
	slices.SortStableFunc(l, func(a, b Offer) int { return a.Who - b.Who })
	return l
}

// at is where a process's offer of a number is, -1 of none.
func (m *plain) at(who, no int) int {
	return slices.IndexFunc(m.all, func(o Offer) bool { return o.Who == who && o.Guard.No == no })
}

// put is what Put answers.
func (m *plain) put(who int, g api.Guard) api.Errno {
	switch {
	case who < 0 || who > last:
		return api.ErrRange
	case m.at(who, g.No) >= 0:
		return api.ErrThere
	case len(m.all) == m.room:
		return api.ErrFull
	}
	m.all = append(m.all, offer(who, g))
	return api.OK
}

// drop is what Drop answers.
func (m *plain) drop(who, no int) api.Errno {
	if who < 0 || who > last {
		return api.ErrRange
	}
	at := m.at(who, no)
	if at < 0 {
		return api.ErrNone
	}
	m.all = slices.Delete(m.all, at, at+1)
	return api.OK
}

// clear is what Clear answers.
func (m *plain) clear(who int) int {
	many := len(m.all)
	m.all = slices.DeleteFunc(m.all, func(o Offer) bool { return o.Who == who })
	return many - len(m.all)
}

// sorts are the kinds and Objs of all that is there, each once.
func (m *plain) sorts() [][2]int {
	var l [][2]int
	met := map[[2]int]bool{}
	for _, o := range m.all {
		at := [2]int{o.Guard.Kind, o.Guard.Obj}
		if !met[at] {
			met[at] = true
			l = append(l, at)
		}
	}
	return l
}

// watch is a table beside the plain one to which the same was done.
type watch struct {
	o *Table
	m plain
}

// begin is a table of that room to which nothing was done.
func begin(t *testing.T, room int) *watch {
	t.Helper()
	return &watch{o: table(t, room), m: plain{room: room}}
}

// put calls Put for all guards, and holds the answers against the plain table's.
func (w *watch) put(t *testing.T, who int, l ...api.Guard) {
	t.Helper()
	for _, g := range l {
		want := w.m.put(who, g)
		putsNot(t, w.o, who, g, want)
	}
}

// drop calls Drop, and holds its answer against the plain table's.
func (w *watch) drop(t *testing.T, who, no int) {
	t.Helper()
	want := w.m.drop(who, no)
	dropsNot(t, w.o, who, no, want)
}

// clear calls Clear, and holds its answer against the plain table's.
func (w *watch) clear(t *testing.T, who int) {
	t.Helper()
	want := w.m.clear(who)
	clears(t, w.o, who, want)
}

// holds fails, unless the table has just what the plain one has: of each process, of each kind and Obj that is there, and of some that are not.
func (w *watch) holds(t *testing.T) {
	t.Helper()
	counts(t, w.o, len(w.m.all), w.m.room-len(w.m.all))
	for who := range last + 1 {
		of(t, w.o, who, w.m.of(who)...)
	}
	for _, s := range w.m.sorts() {
		for _, near := range [][2]int{s, {s[0] + 1, s[1]}, {s[0] - 1, s[1]}, {s[0], s[1] + 1}, {s[0], s[1] - 1}, {s[1], s[0]}} {
			on(t, w.o, near[0], near[1], w.m.on(near[0], near[1])...)
		}
	}
	on(t, w.o, 99, 99)
}

// asIs fails, unless the table has just what the plain one has, and nothing of what is no process, and of what nobody waits for.
func (w *watch) asIs(t *testing.T) {
	t.Helper()
	w.holds(t)
	for _, who := range noProcs {
		of(t, w.o, who)
	}
	for _, kind := range numbers {
		for _, obj := range numbers {
			on(t, w.o, kind, obj, w.m.on(kind, obj)...)
		}
	}
	w.holds(t)
}

// some is a table with offers of several processes, put in by turns, and room for so many more.
func some(t *testing.T, free int) *watch {
	t.Helper()
	w := begin(t, 9+free)
	w.put(t, 3, by(in, 0, 0, 1, 0))
	w.put(t, 0, by(bar, 4, 0, 0, 5))
	w.put(t, 3, by(out, 0, 7, 0, 1), by(in, 0, 0, 2, 4))
	w.put(t, 15, by(in, 0, 0, 0, 0))
	w.put(t, 0, by(in, 0, 0, 3, 2), by(till, 0, 12, 0, 3))
	w.put(t, 3, by(join, 0, 4097, 1, 2))
	w.put(t, 15, by(skip, 0, 0, 0, -1))
	counts(t, w.o, 9, free)
	return w
}

// The chapter's example.
func TestExample(t *testing.T) {
	o := table(t, 4)
	g, h := by(in, 0, 0, 0, 0), by(in, 0, 0, 5, 2)
	puts(t, o, 3, g)
	puts(t, o, 1, h)
	on(t, o, in, 0, offer(1, h), offer(3, g))
}

// P26.1: New of rooms that may be: no offers, and room for just so many, whether one process has them all or all have some.
func TestNew(t *testing.T) {
	for _, room := range []int{1, 2, 3, 4, 15, 16, 17, 63, 64, 65, 255, 256, 257, 512, 1000, mostRoom - 1, mostRoom} {
		begin(t, room).asIs(t)
		for _, procs := range []int{1, 2, last + 1} {
			o := table(t, room)
			for i, g := range numbered(room) {
				counts(t, o, i, room-i)
				puts(t, o, i%procs, g)
			}
			counts(t, o, room, 0)
			for who := range last + 1 {
				putsNot(t, o, who, by(skip, 0, 0, 0, room), api.ErrFull)
			}
			counts(t, o, room, 0)
		}
	}
}

// P26.1: New of rooms that may not be, just beside the edges, and far from them: no table beside the error.
func TestNewArg(t *testing.T) {
	for _, room := range noRooms {
		if o, e := New(room); o != nil || e != api.ErrArg {
			t.Errorf("New(%d): %v, %d; want nil, ErrArg", room, o, e)
		}
	}
}

// P26.1, P26.2: what is put in is its process's last offer, whatever others put in between, and comes out as it was.
func TestPut(t *testing.T) {
	w := begin(t, 40)
	l := numbered(6)
	order := []int{4, 0, 5, 2, 1, 3} // not by their numbers
	for _, no := range order {
		for _, who := range []int{9, 0, 15, 7} {
			w.put(t, who, l[no])
			w.asIs(t)
		}
	}
	for _, who := range []int{9, 0, 15, 7} {
		of(t, w.o, who, l[4], l[0], l[5], l[2], l[1], l[3])
	}
	of(t, w.o, 8)
	counts(t, w.o, 24, 16)
}

// P26.1: each process may put in, the first and the last one too; it has none, one, or many, and nobody else has any for that.
func TestPutEach(t *testing.T) {
	for who := range last + 1 {
		w := begin(t, mostRoom)
		w.asIs(t)
		w.put(t, who, by(out, 2, 7, 0, 3))
		w.asIs(t)
		w.put(t, who, by(out, 2, 7, 0, 4))
		w.asIs(t)
		w.clear(t, who)
		w.put(t, who, numbered(200)...)
		w.holds(t)
		counts(t, w.o, 200, mostRoom-200)
	}
}

// P26.1: any guard is taken, also one that may not be: of any kind, with any number in any field.
func TestPutAny(t *testing.T) {
	for _, x := range numbers {
		w := begin(t, 6)
		w.put(t, 2, by(x, 1, 2, 3, 0), by(in, x, 2, 3, 10), by(in, 1, x, 3, 20), by(in, 1, 2, x, 30), by(in, 1, 2, 3, x), by(x, x, x, x, 40))
		w.asIs(t)
		for _, g := range w.m.of(2) {
			w.put(t, 2, by(0, 0, 0, 0, g.No)) // it is there
			w.drop(t, 2, g.No)
			w.asIs(t)
		}
		counts(t, w.o, 0, 6)
	}
}

// P26.1: numbers of offers are told apart whole, to both ends of an int.
func TestNumbers(t *testing.T) {
	w := begin(t, len(numbers))
	for _, no := range numbers {
		w.put(t, 7, by(in, 0, 0, 0, no))
	}
	counts(t, w.o, len(numbers), 0)
	w.asIs(t)
	for _, no := range numbers {
		putsNot(t, w.o, 7, by(out, 3, 1, 0, no), api.ErrThere)
		putsNot(t, w.o, 6, by(out, 3, 1, 0, no), api.ErrFull)
		dropsNot(t, w.o, 6, no, api.ErrNone)
	}
	w.asIs(t)
	for _, no := range numbers {
		w.drop(t, 7, no)
		w.drop(t, 7, no) // it has gone
		w.holds(t)
	}
	counts(t, w.o, 0, len(numbers))
}

// P26.1: Put of what is no process's number: ErrRange, be there room, and an offer of that No, or not; and nothing changes.
func TestPutRange(t *testing.T) {
	for _, free := range []int{0, 1, 100} {
		w := some(t, free)
		for _, who := range noProcs {
			for _, no := range []int{0, 1, 5, 77, -1, math.MinInt, math.MaxInt} {
				putsNot(t, w.o, who, by(in, 0, 0, 0, no), api.ErrRange)
				putsNot(t, w.o, who, by(math.MaxInt, math.MinInt, 0, 0, no), api.ErrRange)
			}
		}
		w.asIs(t)
	}
}

// P26.1: Put of a No that the process has already, be that offer first, in the middle, or last, and be the guard the same or another one: ErrThere, also where there is no room; and nothing changes.
func TestPutThere(t *testing.T) {
	for _, free := range []int{0, 1, 100} {
		w := some(t, free)
		for _, o := range w.m.all {
			putsNot(t, w.o, o.Who, o.Guard, api.ErrThere)
			putsNot(t, w.o, o.Who, by(0, -1, 9, 9, o.Guard.No), api.ErrThere)
		}
		w.asIs(t)
	}
}

// P26.1: one No with two processes, and with all: each has its own, and drops its own.
func TestOneNo(t *testing.T) {
	w := begin(t, last+1)
	for who := last; who >= 0; who-- {
		w.put(t, who, by(in, who%2, 0, who%8, 3))
	}
	counts(t, w.o, last+1, 0)
	w.asIs(t)
	for _, who := range []int{5, 0, 15, 7} {
		w.drop(t, who, 3)
		w.drop(t, who, 3)
		w.asIs(t)
	}
	w.put(t, 5, by(out, 1, 0, 0, 3))
	w.clear(t, 6)
	w.asIs(t)
}

// P26.1: Put where there is no room: ErrFull, whoever comes, and nothing changes.
func TestPutFull(t *testing.T) {
	w := some(t, 0)
	for range 3 {
		for who := range last + 1 {
			for _, no := range []int{77, -2, math.MinInt, math.MaxInt} {
				putsNot(t, w.o, who, by(in, 0, 0, 0, no), api.ErrFull)
			}
		}
	}
	w.asIs(t)
}

// P26.1: a table that is full takes one again behind Drop, and as many as went behind Clear, and then no more.
func TestFullAgain(t *testing.T) {
	for _, room := range []int{1, 2, 3, 16, 17, 100, mostRoom} {
		for _, procs := range []int{1, 3, last + 1} {
			w := begin(t, room)
			for i, g := range numbered(room) {
				w.put(t, last-i%procs, g)
			}
			counts(t, w.o, room, 0)
			more := by(join, 3, 0, 0, room)
			for _, at := range []int{0, room / 2, room - 1} {
				gone := w.m.all[at]
				w.drop(t, gone.Who, gone.Guard.No)
				counts(t, w.o, room-1, 1)
				w.put(t, 0, more)
				counts(t, w.o, room, 0)
				w.put(t, 1, more)
				w.put(t, 0, more)
				w.drop(t, 0, more.No)
				w.put(t, gone.Who, gone.Guard) // behind those that stayed
				w.put(t, 1, more)
			}
			w.holds(t)
			many := len(w.m.of(last))
			w.clear(t, last)
			counts(t, w.o, room-many, many)
			for no := range many {
				w.put(t, 2, by(skip, 0, 0, 0, 2*room+no))
			}
			counts(t, w.o, room, 0)
			w.put(t, 2, by(skip, 0, 0, 0, -5))
			w.holds(t)
		}
	}
}

// P26.1: Drop of the first offer, of one in the middle, and of the last one: those that are left keep their order.
func TestDrop(t *testing.T) {
	l := numbered(5)
	cases := []struct {
		no   int
		left []api.Guard
	}{
		{0, guards(l[1], l[2], l[3], l[4])},
		{2, guards(l[0], l[1], l[3], l[4])},
		{4, guards(l[0], l[1], l[2], l[3])},
	}
	for _, c := range cases {
		o := table(t, 10)
		puts(t, o, 4, l...)
		puts(t, o, 5, l...)
		drops(t, o, 4, c.no)
		of(t, o, 4, c.left...)
		of(t, o, 5, l...)
		counts(t, o, 9, 1)
		dropsNot(t, o, 4, c.no, api.ErrNone)
		puts(t, o, 4, l[c.no])
		of(t, o, 4, append(c.left, l[c.no])...)
		counts(t, o, 10, 0)
	}
}

// P26.1: Drop of five offers in all orders, with another process's between them in the slots.
func TestDropOrders(t *testing.T) {
	l := numbered(5)
	order := []int{0, 1, 2, 3, 4}
	var each func(k int)
	each = func(k int) {
		if k == len(order) {
			w := begin(t, 12)
			for _, g := range l {
				w.put(t, 8, g)
				w.put(t, 2, g)
			}
			for _, no := range order {
				w.drop(t, 8, no)
				of(t, w.o, 8, w.m.of(8)...)
				of(t, w.o, 2, l...)
			}
			w.holds(t)
			return
		}
		for i := k; i < len(order); i++ {
			order[k], order[i] = order[i], order[k]
			each(k + 1)
			order[k], order[i] = order[i], order[k]
		}
	}
	each(0)
}

// P26.1: Drop of what is no process's number: ErrRange, whatever the No is; and nothing changes.
func TestDropRange(t *testing.T) {
	w := some(t, 3)
	for _, who := range noProcs {
		for _, no := range slices.Concat(numbers, []int{77}) {
			dropsNot(t, w.o, who, no, api.ErrRange)
		}
	}
	w.asIs(t)
}

// P26.1: Drop of a No that the process has not, though others have it, or had it: ErrNone; and nothing changes.
func TestDropNone(t *testing.T) {
	w := some(t, 3)
	for who := range last + 1 {
		for _, no := range slices.Concat(numbers, []int{77}) {
			if w.m.at(who, no) < 0 {
				dropsNot(t, w.o, who, no, api.ErrNone)
			}
		}
	}
	w.asIs(t)
	e := begin(t, 1)
	for who := range last + 1 {
		for _, no := range numbers {
			dropsNot(t, e.o, who, no, api.ErrNone)
		}
	}
	e.asIs(t)
}

// P26.1, P26.4: Clear lets all of a process's offers go, and nobody else's; how many they were.
func TestClear(t *testing.T) {
	for who := range last + 1 {
		w := some(t, 1)
		before := len(w.m.of(who))
		w.clear(t, who)
		of(t, w.o, who)
		w.asIs(t)
		w.clear(t, who)
		w.asIs(t)
		counts(t, w.o, 9-before, 1+before)
		w.put(t, who, numbered(before+1)...) // the numbers of old ones among them
		counts(t, w.o, 10, 0)
		w.asIs(t)
	}
	for _, many := range []int{0, 1, 2, 3, 500, mostRoom} {
		w := begin(t, mostRoom)
		w.put(t, 6, numbered(many)...)
		w.put(t, 7, by(in, 0, 0, 0, 0))
		rest := len(w.m.of(7))
		clears(t, w.o, 6, many)
		w.m.clear(6)
		w.holds(t)
		counts(t, w.o, rest, mostRoom-rest)
		for _, no := range []int{0, many - 1, many} {
			dropsNot(t, w.o, 6, no, api.ErrNone)
		}
	}
}

// P26.1: Clear of what is no process's number: 0, and nobody's offers go.
func TestClearNoProcess(t *testing.T) {
	for _, free := range []int{0, 5} {
		w := some(t, free)
		for range 2 {
			for _, who := range noProcs {
				clears(t, w.o, who, 0)
			}
		}
		w.asIs(t)
	}
}

// P26.2: On of what nobody waits for, what one process waits for, what one waits for twice, and what several wait for: by the processes' numbers, and not by when they came.
func TestOn(t *testing.T) {
	o := table(t, 20)
	a, b, c := by(in, 2, 0, 1, 5), by(in, 2, 0, 4, 1), by(in, 2, 9, 0, 3)
	on(t, o, in, 2)
	puts(t, o, 12, a)
	on(t, o, in, 2, offer(12, a))
	puts(t, o, 12, by(out, 2, 7, 0, 0), by(in, 3, 0, 0, 2), b)
	on(t, o, in, 2, offer(12, a), offer(12, b)) // in order, and not by their numbers
	puts(t, o, 15, c)
	puts(t, o, 0, b, a)
	puts(t, o, 3, by(bar, 2, 0, 0, 1), c, by(till, 2, 0, 0, 2))
	on(t, o, in, 2, offer(0, b), offer(0, a), offer(3, c), offer(12, a), offer(12, b), offer(15, c))
	on(t, o, in, 3, offer(12, by(in, 3, 0, 0, 2)))
	on(t, o, out, 2, offer(12, by(out, 2, 7, 0, 0)))
	on(t, o, bar, 2, offer(3, by(bar, 2, 0, 0, 1)))
	on(t, o, till, 2, offer(3, by(till, 2, 0, 0, 2)))
	for _, none := range [][2]int{{in, 0}, {in, 1}, {in, 4}, {out, 3}, {bar, 3}, {till, 3}, {skip, 2}, {join, 2}, {0, 2}, {2, 1}} {
		on(t, o, none[0], none[1])
	}
	drops(t, o, 12, 5)
	puts(t, o, 12, a) // behind the other one, now
	clears(t, o, 3, 3)
	on(t, o, in, 2, offer(0, b), offer(0, a), offer(12, b), offer(12, a), offer(15, c))
	clears(t, o, 0, 2)
	puts(t, o, 0, a)
	on(t, o, in, 2, offer(0, a), offer(12, b), offer(12, a), offer(15, c))
}

// P26.2: On of all sixteen, who come in many orders, at all kinds, some twice.
func TestOnAll(t *testing.T) {
	r := rand.New(rand.NewSource(262))
	for range 50 {
		w := begin(t, 200)
		for _, no := range r.Perm(6) {
			for _, who := range r.Perm(last + 1) {
				w.put(t, who, by(1+r.Intn(6), r.Intn(2), r.Intn(9), r.Intn(8), no))
			}
		}
		counts(t, w.o, 96, 104)
		for kind := range 8 {
			for obj := range 3 {
				on(t, w.o, kind, obj, w.m.on(kind, obj)...)
			}
		}
		w.asIs(t)
	}
}

// P26.2: On of kinds and Objs to both ends of an int, which are not those that are there, though they are when they are cut.
func TestOnFar(t *testing.T) {
	w := some(t, 2)
	for _, x := range slices.Concat(far, []int{-1, 256, 257, 258, 65536, 65537, 7, 8}) {
		on(t, w.o, x, 0)
		on(t, w.o, in, x)
		on(t, w.o, x, x)
	}
	w.put(t, 9, by(math.MinInt, math.MaxInt, 1, 2, 3), by(math.MaxInt, math.MinInt, 1, 2, 4))
	on(t, w.o, math.MinInt, math.MaxInt, offer(9, by(math.MinInt, math.MaxInt, 1, 2, 3)))
	on(t, w.o, math.MaxInt, math.MinInt, offer(9, by(math.MaxInt, math.MinInt, 1, 2, 4)))
	on(t, w.o, math.MaxInt, math.MaxInt)
	on(t, w.o, math.MinInt, math.MinInt)
	w.asIs(t)
}

// P26.2: Of of what is no process's number, though processes are there whose numbers it is when it is cut.
func TestOfNoProcess(t *testing.T) {
	w := begin(t, 64)
	for who := range last + 1 {
		w.put(t, who, by(in, 0, 0, 0, who), by(in, 0, 0, 0, -who-1))
	}
	for _, who := range noProcs {
		of(t, w.o, who)
		putsNot(t, w.o, who, by(in, 0, 0, 0, 77), api.ErrRange)
		of(t, w.o, who)
	}
	w.asIs(t)
}

// spoil writes to a list, and behind it.
func spoil[T any](l []T, x T) {
	for i := range l {
		l[i] = x
	}
	l = append(l, x, x)
	whole := l[:cap(l)]
	for i := range whole {
		whole[i] = x
	}
}

// P26.2, R4: what Of answers is the caller's: writing to it, and appending to it, changes neither the table nor another answer, and it stays as it was, whatever is done with the table.
func TestOfOwn(t *testing.T) {
	bad := by(9, 9, 9, 9, 9)
	for _, many := range []int{1, 2, 5, 8, 64, 600} {
		w := begin(t, mostRoom)
		l := numbered(many)
		w.put(t, 3, l...)
		w.put(t, 4, l[0])
		first, second, other := w.o.Of(3), w.o.Of(3), w.o.Of(4)
		spoil(first, bad)
		w.holds(t)
		third := w.o.Of(3)
		w.drop(t, 3, 0)
		w.put(t, 3, by(out, 1, 2, 0, -7), l[0])
		w.clear(t, 4)
		w.put(t, 4, by(bar, 0, 0, 0, 0))
		if !slices.Equal(second, l) || !slices.Equal(third, l) || !slices.Equal(other, l[:1]) {
			t.Errorf("Of: %+v, %+v, %+v; want %+v", second, third, other, l)
		}
		spoil(second, bad)
		spoil(third, bad)
		spoil(w.o.Of(9), bad)
		w.holds(t)
	}
}

// P26.2, R4: what On answers is the caller's too.
func TestOnOwn(t *testing.T) {
	bad := offer(9, by(9, 9, 9, 9, 9))
	for _, many := range []int{1, 2, 5, 8, 64, 600} {
		w := begin(t, mostRoom)
		for no := range many {
			w.put(t, no%7, by(out, 6, no, 0, no))
		}
		want := w.m.on(out, 6)
		first, second := w.o.On(out, 6), w.o.On(out, 6)
		spoil(first, bad)
		w.holds(t)
		third := w.o.On(out, 6)
		w.drop(t, 0, 0)
		w.put(t, 8, by(out, 6, -1, 0, 0))
		w.clear(t, 1)
		w.put(t, 1, by(out, 6, -1, 0, 5))
		if !slices.Equal(second, want) || !slices.Equal(third, want) {
			t.Errorf("On: %+v, %+v; want %+v", second, third, want)
		}
		spoil(second, bad)
		spoil(third, bad)
		spoil(w.o.On(in, 6), bad)
		w.holds(t)
	}
}

// R4: the guard that was handed in, and the one that comes out, are copies.
func TestGuardOwn(t *testing.T) {
	o := table(t, 3)
	g := by(in, 1, 2, 3, 4)
	puts(t, o, 2, g)
	g.No, g.Kind = 5, out
	of(t, o, 2, by(in, 1, 2, 3, 4))
	dropsNot(t, o, 2, 5, api.ErrNone)
	puts(t, o, 2, g)
	of(t, o, 2, by(in, 1, 2, 3, 4), g)
}

// P26.2: what only asks changes nothing, however often, and whatever it is asked for.
func TestAsking(t *testing.T) {
	w := some(t, 4)
	for range 20 {
		w.asIs(t)
	}
	w.drop(t, 3, 1)
	w.put(t, 3, by(in, 0, 0, 0, 1))
	w.asIs(t)
}

// R3: a call that answers an error has changed nothing: the table goes on as another one in which it was not made.
func TestRefused(t *testing.T) {
	r := rand.New(rand.NewSource(263))
	for _, room := range []int{1, 2, 5, 20} {
		a, b := begin(t, room), begin(t, room)
		for range 500 {
			who, no := r.Intn(4), r.Intn(room+2)
			wrong := noProcs[r.Intn(len(noProcs))]
			putsNot(t, a.o, wrong, by(in, 0, 0, 0, no), api.ErrRange)
			dropsNot(t, a.o, wrong, no, api.ErrRange)
			dropsNot(t, a.o, who, 77, api.ErrNone)
			for _, o := range a.m.all {
				putsNot(t, a.o, o.Who, by(9, 9, 9, 9, o.Guard.No), api.ErrThere)
			}
			if len(a.m.all) == room {
				putsNot(t, a.o, who, by(in, 0, 0, 0, 77), api.ErrFull)
			}
			g := by(1+r.Intn(6), r.Intn(3), r.Intn(9), 0, no)
			if r.Intn(3) > 0 {
				a.put(t, who, g)
				b.put(t, who, g)
			} else {
				a.drop(t, who, no)
				b.drop(t, who, no)
			}
			a.holds(t)
			b.holds(t)
		}
	}
}

// P26.3: a nil table, and one that New did not give: ErrNil, ahead of all else that is wrong; 0; nothing.
func TestNobodys(t *testing.T) {
	var none Table
	refused, _ := New(0)
	for _, o := range []*Table{nil, {}, new(Table), &none, refused} {
		for range 2 {
			for _, who := range slices.Concat(noProcs, []int{0, 1, 7, 15}) {
				for _, x := range numbers {
					putsNot(t, o, who, by(in, x, 0, 0, 0), api.ErrNil)
					putsNot(t, o, who, by(x, 0, 0, 0, x), api.ErrNil)
					dropsNot(t, o, who, x, api.ErrNil)
				}
				clears(t, o, who, 0)
				of(t, o, who)
			}
			for _, x := range numbers {
				on(t, o, x, 0)
				on(t, o, in, x)
				on(t, o, x, x)
			}
			counts(t, o, 0, 0)
		}
	}
	if none != (Table{}) {
		t.Errorf("a zero table has become %v", none)
	}
}

// R3: tables do not meet: what is in one is in no other one, be they of one room or not.
func TestTwoTables(t *testing.T) {
	a, b, c := begin(t, 4), begin(t, 4), begin(t, 7)
	a.put(t, 3, numbered(4)...)
	b.asIs(t)
	c.asIs(t)
	b.put(t, 3, by(out, 0, 0, 0, 2), by(out, 0, 0, 0, 0))
	c.put(t, 4, numbered(3)...)
	b.clear(t, 4)
	c.clear(t, 3)
	b.drop(t, 3, 1)
	a.drop(t, 3, 1)
	for _, w := range []*watch{a, b, c} {
		w.asIs(t)
	}
	c.clear(t, 4)
	a.clear(t, 3)
	b.put(t, 15, by(bar, 0, 0, 0, 0))
	for _, w := range []*watch{a, b, c} {
		w.asIs(t)
	}
}

// P26.4: all runs of four calls of two processes at rooms of 1 and 3, and of five at a room of 2, wrong numbers among them.
func TestShortRuns(t *testing.T) {
	calls := []func(t *testing.T, w *watch){
		func(t *testing.T, w *watch) { w.put(t, 0, by(in, 0, 1, 0, 0)) },
		func(t *testing.T, w *watch) { w.put(t, 0, by(in, 0, 2, 0, 1)) },
		func(t *testing.T, w *watch) { w.put(t, 15, by(in, 0, 3, 0, 0)) },
		func(t *testing.T, w *watch) { w.put(t, 15, by(out, 0, 4, 0, 1)) },
		func(t *testing.T, w *watch) { w.drop(t, 0, 0) },
		func(t *testing.T, w *watch) { w.drop(t, 15, 0) },
		func(t *testing.T, w *watch) { w.drop(t, 15, 1) },
		func(t *testing.T, w *watch) { w.clear(t, 0) },
		func(t *testing.T, w *watch) { w.clear(t, 15) },
		func(t *testing.T, w *watch) { w.put(t, 16, by(in, 0, 5, 0, 0)); w.drop(t, -1, 0); w.clear(t, 16) },
	}
	for _, run := range []struct{ room, long int }{{1, 4}, {2, 5}, {3, 4}} {
		room, many := run.room, 1
		for range run.long {
			many *= len(calls)
		}
		for n := range many {
			w := begin(t, room)
			for range run.long {
				calls[n%len(calls)](t, w)
				n /= len(calls)
			}
			counts(t, w.o, len(w.m.all), room-len(w.m.all))
			of(t, w.o, 0, w.m.of(0)...)
			of(t, w.o, 15, w.m.of(15)...)
			on(t, w.o, in, 0, w.m.on(in, 0)...)
			on(t, w.o, out, 0, w.m.on(out, 0)...)
		}
	}
}

// P26.4: long runs by chance of all calls, of few and of many processes, at tables of small and of great rooms.
func TestRuns(t *testing.T) {
	r := rand.New(rand.NewSource(264))
	for _, room := range []int{1, 2, 3, 7, 30, 120, mostRoom} {
		for _, procs := range []int{1, 2, 5, 16} {
			w, who := begin(t, room), r.Perm(last + 1)[:procs]
			for i := range 600 {
				step(t, r, w, who[r.Intn(procs)])
				if room < 100 || i%20 == 0 {
					w.holds(t)
				}
			}
			w.asIs(t)
		}
	}
}

// step makes one call by chance: of this process mostly, and of wrong numbers now and then.
func step(t *testing.T, r *rand.Rand, w *watch, who int) {
	t.Helper()
	no := r.Intn(min(w.m.room, 60) + 2)
	wrong := noProcs[r.Intn(len(noProcs))]
	switch r.Intn(60) {
	case 0:
		w.put(t, wrong, by(in, 0, 0, 0, no))
		w.drop(t, wrong, no)
		w.clear(t, wrong)
	case 1:
		w.clear(t, who)
	case 2, 3, 4, 5, 6, 7, 8, 9, 10, 11:
		w.drop(t, who, no)
	case 12, 13, 14, 15, 16, 17, 18:
		if l := w.m.of(who); len(l) > 0 {
			w.drop(t, who, l[r.Intn(len(l))].No)
		}
	default:
		w.put(t, who, by(1+r.Intn(6), r.Intn(3), r.Intn(99), r.Intn(8), no))
	}
}

// P26.1, P26.4: a table takes one offer after the other for as long as it is used: a place that was used as often as layer 2 lets a slot be used is a place all the same, be the offers dropped or cleared.
func TestLong(t *testing.T) {
	for _, clear := range []bool{false, true} {
		o := table(t, 1)
		for i := range 3*worn + 100 {
			g := by(in, i%8, i, 0, i%6)
			puts(t, o, i%16, g)
			if i%worn < 3 || i%worn > worn-3 || i%1000 == 0 {
				of(t, o, i%16, g)
				on(t, o, in, i%8, offer(i%16, g))
				counts(t, o, 1, 0)
				putsNot(t, o, i%16, by(in, 0, 0, 0, 6), api.ErrFull)
			}
			if clear {
				clears(t, o, i%16, 1)
			} else {
				drops(t, o, i%16, i%6)
			}
			counts(t, o, 0, 1)
		}
	}
}

// P26.1, P26.4: the same, while others stand: they stay where they are in their order, whichever place goes on being used; and no room is lost.
func TestLongAmong(t *testing.T) {
	standing := []int{last, 4, 0, 3}
	for _, room := range []int{2, 3, 5, 9} {
		w := begin(t, room)
		for i := range room - 1 {
			w.put(t, standing[i%4], by(in, 0, i, 0, 9-i))
		}
		for i := range 2*worn + 100 {
			g := by(in, 0, i, 0, 50)
			puts(t, w.o, 2, g)
			if i%worn < 3 || i%worn > worn-3 || i%5000 == 0 {
				w.m.put(2, g)
				w.holds(t)
				putsNot(t, w.o, 3, g, api.ErrFull)
				w.m.drop(2, g.No)
			}
			drops(t, w.o, 2, 50)
			counts(t, w.o, room-1, 1)
		}
		w.asIs(t)
		for i := range room - 1 {
			w.drop(t, standing[i%4], 9-i)
		}
		w.put(t, 1, numbered(room)...)
		counts(t, w.o, room, 0)
		w.put(t, 2, by(in, 0, 0, 0, 0))
		w.holds(t)
	}
}

// P26.1, P26.4: all places but those of one offer that stands, or of none, are filled and emptied together as often as they can be, so that all of them are used up at once, and none of them is lost.
func TestLongFilled(t *testing.T) {
	for _, room := range []int{2, 3, 6} {
		for _, stands := range []int{0, 1} {
			w := begin(t, room)
			if stands > 0 {
				w.put(t, last, by(bar, 1, 2, 3, 4))
			}
			l := numbered(room - stands)
			for i := range worn + 10 {
				puts(t, w.o, 8, l...)
				counts(t, w.o, room, 0)
				if i > worn-3 {
					of(t, w.o, 8, l...)
					of(t, w.o, last, w.m.of(last)...)
					putsNot(t, w.o, 0, by(in, 0, 0, 0, 0), api.ErrFull)
				}
				clears(t, w.o, 8, len(l))
				counts(t, w.o, stands, room-stands)
			}
			w.asIs(t)
		}
	}
}

// P26.1, P26.4: all places of a table are used up as often as they can be, by turns, with offers of all sorts among them.
func TestLongAll(t *testing.T) {
	r := rand.New(rand.NewSource(265))
	const room = 4
	w := begin(t, room)
	for i := range (2*room + 1) * worn {
		who, no := r.Intn(3), r.Intn(3)
		g := by(1+r.Intn(3), 0, i, 0, no)
		switch {
		case w.m.at(who, no) >= 0:
			w.drop(t, who, no)
		default:
			w.put(t, who, g)
		}
		if i%7 == 0 {
			w.clear(t, r.Intn(3))
		}
		counts(t, w.o, len(w.m.all), room-len(w.m.all))
		if i%worn < 5 || i%97 == 0 {
			w.holds(t)
		}
	}
	w.asIs(t)
}

// P26.1, P26.4: the greatest table, full but for one place, which is used as long as that.
func TestLongGreatest(t *testing.T) {
	w := begin(t, mostRoom)
	for i := range mostRoom - 1 {
		w.put(t, i%last, by(out, i%8, i, 0, i)) // nothing of the last process
	}
	for i := range worn + 100 {
		g := by(in, 7, i, 0, i%6)
		puts(t, w.o, last, g)
		if i >= worn-2 {
			on(t, w.o, in, 7, offer(last, g))
		}
		drops(t, w.o, last, i%6)
	}
	counts(t, w.o, mostRoom-1, 1)
	w.holds(t)
	w.put(t, last, by(in, 7, 0, 0, 0))
	w.put(t, last, by(in, 7, 0, 0, 1))
	w.holds(t)
}

// P26.4: what was put in, and not dropped nor cleared, is there just once, in its process's list and among all that wait for the same.
func TestOnce(t *testing.T) {
	r := rand.New(rand.NewSource(2640))
	for _, room := range []int{3, 20, 300} {
		o := table(t, room)
		left := map[int]Offer{} // by the Val, which no two have alike
		for val := range 4000 {
			who := r.Intn(last + 1)
			switch {
			case r.Intn(10) == 0:
				n := 0
				for v, x := range left {
					if x.Who == who {
						delete(left, v)
						n++
					}
				}
				clears(t, o, who, n)
				of(t, o, who)
			case r.Intn(3) == 0:
				no := r.Intn(30)
				if o.Drop(who, no) == api.OK {
					for v, x := range left {
						if x.Who == who && x.Guard.No == no {
							delete(left, v)
						}
					}
				}
			default:
				g := by(in, r.Intn(3), val, 0, r.Intn(30))
				if o.Put(who, g) == api.OK {
					left[val] = offer(who, g)
				}
			}
			once(t, o, left)
			counts(t, o, len(left), room-len(left))
		}
	}
}

// once fails, unless just these are in the processes' lists, and among those that wait for the same, each once.
func once(t *testing.T, o *Table, left map[int]Offer) {
	t.Helper()
	var lists, same []Offer
	for who := range last + 1 {
		for _, g := range o.Of(who) {
			lists = append(lists, offer(who, g))
		}
	}
	for obj := range 3 {
		same = append(same, o.On(in, obj)...)
	}
	for _, l := range [][]Offer{lists, same} {
		met := map[int]bool{}
		for _, x := range l {
			if met[x.Guard.Val] || left[x.Guard.Val] != x {
				t.Fatalf("%+v is there, and %+v was put in", x, left[x.Guard.Val])
			}
			met[x.Guard.Val] = true
		}
		if len(l) != len(left) {
			t.Fatalf("%d offers are there, and %d are left", len(l), len(left))
		}
	}
}
