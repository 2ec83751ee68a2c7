package rings

import (
	"math"
	"math/rand"
	"slices"
	"strconv"
	"testing"

	"becket/api"
)

// rooms are such as may be, the edges among them.
var rooms = []int{0, 1, 2, 3, 4, 7, 64, 255, 1023, 1024}

// ring is a ring that holds nothing.
func ring[T any](t *testing.T, room int) *Ring[T] {
	t.Helper()
	r, e := New[T](room)
	if r == nil || e != api.OK {
		t.Fatalf("New(%d): %v, %d", room, r, e)
	}
	return r
}

// pushed pushes things, and fails, unless all come in.
func pushed[T any](t *testing.T, r *Ring[T], xs ...T) {
	t.Helper()
	for _, x := range xs {
		if e := r.Push(x); e != api.OK {
			t.Fatalf("Push(%v): %d; want 0", x, e)
		}
	}
}

// unpushed fails, unless Push gives that error.
func unpushed[T any](t *testing.T, r *Ring[T], x T, want api.Errno) {
	t.Helper()
	if e := r.Push(x); e != want {
		t.Fatalf("Push(%v): %d; want %d", x, e, want)
	}
}

// popped pops, and fails, unless just those things come out, in that order.
func popped[T comparable](t *testing.T, r *Ring[T], xs ...T) {
	t.Helper()
	for _, x := range xs {
		if got, e := r.Pop(); got != x || e != api.OK {
			t.Fatalf("Pop: %v, %d; want %v, 0", got, e, x)
		}
	}
}

// unpopped fails, unless Pop gives that error, and nothing beside it.
func unpopped[T comparable](t *testing.T, r *Ring[T], want api.Errno) {
	t.Helper()
	var none T
	if got, e := r.Pop(); got != none || e != want {
		t.Fatalf("Pop: %v, %d; want nothing, %d", got, e, want)
	}
}

// at fails, unless At of that place gives that.
func at[T comparable](t *testing.T, r *Ring[T], i int, x T, want api.Errno) {
	t.Helper()
	if got, e := r.At(i); got != x || e != want {
		t.Fatalf("At(%d): %v, %d; want %v, %d", i, got, e, x, want)
	}
}

// noPlaces are numbers that are no places of a ring that holds so many: those next to its ends, all that come to one of its places if they go round by its room, or by 2^32, and the ends of the type.
func noPlaces(many, room int) []int {
	out := []int{math.MinInt, math.MinInt + 1, -1 << 32, -1<<32 + many - 1, -1025, -1024, -2, -1, many, many + 1, 1024, 1025, 1 << 32, 1<<32 + many - 1, math.MaxInt - 1, math.MaxInt}
	for i := range min(many, 5) {
		out = append(out, i-room, i+room, i-2*room, i+2*room)
	}
	return slices.DeleteFunc(out, func(i int) bool { return i >= 0 && i < many })
}

// has fails, unless the ring has that room, and holds just those things, in order.
func has[T comparable](t *testing.T, r *Ring[T], room int, want ...T) {
	t.Helper()
	if got := r.List(); !slices.Equal(got, want) || r.Len() != len(want) || r.Room() != room {
		t.Fatalf("%v, %d of %d; want %v, %d of %d", got, r.Len(), r.Room(), want, len(want), room)
	}
	for i, x := range want {
		at(t, r, i, x, api.OK)
	}
	var none T
	for _, i := range noPlaces(len(want), room) {
		at(t, r, i, none, api.ErrRange)
	}
}

// count are so many numbers that rise by 1.
func count(from, many int) []int {
	var out []int
	for i := range many {
		out = append(out, from+i)
	}
	return out
}

// turned is a ring whose first thing stands behind so many that have come and gone, and which holds so many numbers, from 1 on.
func turned(t *testing.T, room, gone, many int) *Ring[int] {
	t.Helper()
	r := ring[int](t, room)
	for range gone {
		pushed(t, r, 77)
		popped(t, r, 77)
	}
	pushed(t, r, count(1, many)...)
	return r
}

// The chapter's example.
func TestExample(t *testing.T) {
	r := ring[int](t, 1)
	pushed(t, r, 5)
	unpushed(t, r, 6, api.ErrFull)
	popped(t, r, 5)
}

// P7.1: New of rooms that may be: nothing is there, and just so much room.
func TestNew(t *testing.T) {
	for _, room := range rooms {
		r := ring[int](t, room)
		has(t, r, room)
		unpopped(t, r, api.ErrEmpty)
		pushed(t, r, count(1, room)...)
		unpushed(t, r, 9, api.ErrFull)
		has(t, r, room, count(1, room)...)
		popped(t, r, count(1, room)...)
		unpopped(t, r, api.ErrEmpty)
		has(t, r, room)
	}
}

// P7.1: New of rooms that may not be: no ring beside the error.
func TestNewArg(t *testing.T) {
	for _, room := range []int{math.MinInt, math.MinInt + 1, -1 << 32, -1025, -1024, -2, -1, 1025, 1026, 2048, 1 << 16, 1 << 32, 1<<32 + 1, 1<<32 + 1024, math.MaxInt} {
		if r, e := New[int](room); r != nil || e != api.ErrArg {
			t.Errorf("New(%d): %v, %d; want nil, ErrArg", room, r, e)
		}
		if r, e := New[string](room); r != nil || e != api.ErrArg {
			t.Errorf("New(%d): %v, %d; want nil, ErrArg", room, r, e)
		}
	}
}

// P7.1: a thing comes behind those that are there, one more than once too.
func TestPush(t *testing.T) {
	r := ring[int](t, 9)
	var want []int
	for _, x := range []int{5, 0, 5, -1, math.MaxInt, 0, math.MinInt, 5, 5} {
		pushed(t, r, x)
		want = append(want, x)
		has(t, r, 9, want...)
	}
}

// P7.1: a ring that is full takes nothing in, however often it is asked, and keeps what it holds; it has room again, just for one, once something is popped.
func TestFull(t *testing.T) {
	for _, room := range []int{1, 2, 3, 7, 64, 1024} {
		r := ring[int](t, room)
		want := count(1, room)
		pushed(t, r, want...)
		for i := range 5*min(room, 7) + 3 {
			for range 2 {
				unpushed(t, r, 99, api.ErrFull)
				has(t, r, room, want...)
			}
			popped(t, r, want[0])
			has(t, r, room, want[1:]...)
			pushed(t, r, room+1+i)
			want = append(want[1:], room+1+i)
		}
		unpushed(t, r, 99, api.ErrFull)
		has(t, r, room, want...)
	}
}

// P7.1: a ring of room 0 is empty and full at once.
func TestNoRoom(t *testing.T) {
	r := ring[string](t, 0)
	for range 3 {
		unpushed(t, r, "x", api.ErrFull)
		unpushed(t, r, "", api.ErrFull)
		unpopped(t, r, api.ErrEmpty)
		has(t, r, 0)
		r.Clear()
	}
}

// P7.1: Pop of a ring that holds nothing, for it is new, or was emptied: nothing, and it is as it was.
func TestPopEmpty(t *testing.T) {
	for _, room := range []int{1, 2, 3, 64, 1024} {
		r := ring[int](t, room)
		for round := range 2*min(room, 8) + 2 {
			for range 2 {
				unpopped(t, r, api.ErrEmpty)
				has(t, r, room)
			}
			many := round%room + 1
			pushed(t, r, count(5, many)...)
			popped(t, r, count(5, many)...)
		}
		unpopped(t, r, api.ErrEmpty)
		has(t, r, room)
	}
}

// P7.1: the first thing goes, and no other one.
func TestPop(t *testing.T) {
	r := ring[int](t, 4)
	pushed(t, r, 5, 6, 5)
	popped(t, r, 5)
	has(t, r, 4, 6, 5)
	pushed(t, r, 7)
	popped(t, r, 6)
	has(t, r, 4, 5, 7)
	popped(t, r, 5)
	has(t, r, 4, 7)
	popped(t, r, 7)
	has(t, r, 4)
}

// P7.2: At and List, wherever in a ring the first thing stands, and however many there are behind it: of the first place, of the last one, and of none.
func TestTurned(t *testing.T) {
	for room := 1; room <= 6; room++ {
		for gone := range 2*room + 2 {
			for many := range room + 1 {
				has(t, turned(t, room, gone, many), room, count(1, many)...)
			}
		}
	}
	for _, room := range []int{64, 1023, 1024} {
		for _, gone := range []int{1, room / 2, room - 1, room, room + 1} {
			for _, many := range []int{0, 1, room / 2, room - 1, room} {
				has(t, turned(t, room, gone, many), room, count(1, many)...)
			}
		}
	}
}

// P7.2: places at which something stood that has gone, or at which something will stand, are none.
func TestAtGone(t *testing.T) {
	r := ring[int](t, 4)
	pushed(t, r, 5, 6, 7)
	popped(t, r, 5)
	at(t, r, 0, 6, api.OK)
	at(t, r, 1, 7, api.OK)
	for _, i := range []int{-4, -3, -2, -1, 2, 3, 4, 5, 6, 7, 8} {
		at(t, r, i, 0, api.ErrRange)
	}
	has(t, r, 4, 6, 7)
}

// P7.2: what List answered stays as it was, whatever the ring does then.
func TestListStays(t *testing.T) {
	for room := 1; room <= 5; room++ {
		for gone := range room + 1 {
			for many := range room + 1 {
				r := turned(t, room, gone, many)
				was := r.List()
				for range 2*room + 1 {
					r.Pop()
					r.Push(99)
				}
				r.Clear()
				for range room {
					r.Push(98)
				}
				if !slices.Equal(was, count(1, many)) {
					t.Fatalf("room %d, turned by %d: %v; want %v", room, gone, was, count(1, many))
				}
			}
		}
	}
}

// P7.2: a ring stays as it was, whatever is done to what List answered: it is written to, appended to as it is or in part, or cleared.
func TestListCallers(t *testing.T) {
	for room := 1; room <= 5; room++ {
		for gone := range room + 1 {
			for many := range room + 1 {
				r := turned(t, room, gone, many)
				want := count(1, many)
				_ = append(r.List(), 99, 98, 97)
				_ = append(r.List()[:many/2], 99)
				list := r.List()
				for i := range list {
					list[i] = 96
				}
				has(t, r, room, want...)
				clear(list)
				has(t, r, room, want...)
				for i := many; i < room; i++ {
					pushed(t, r, i+1)
				}
				_ = append(list, 95)
				has(t, r, room, count(1, room)...)
			}
		}
	}
}

// P7.2: nothing is appended behind what List answered: it ends where its memory does, so that two that are appended to it do not overwrite each other.
func TestListCut(t *testing.T) {
	for many := range 1025 {
		for _, gone := range []int{0, 3} {
			list := turned(t, 1024, gone*341, many).List()
			if cap(list) != many {
				t.Fatalf("%d things: memory for %d", many, cap(list))
			}
			a, b := append(list, 98), append(list, 99)
			if a[many] != 98 || b[many] != 99 {
				t.Fatalf("%d things: %d and %d are behind them; want 98 and 99", many, a[many], b[many])
			}
		}
	}
}

// P7.2: two lists of one ring have no memory in common.
func TestTwoLists(t *testing.T) {
	r := turned(t, 4, 2, 4)
	a, b := r.List(), r.List()
	clear(a)
	if !slices.Equal(b, count(1, 4)) {
		t.Errorf("%v; want 1 to 4", b)
	}
}

// P7.2: Clear of a ring that is empty, full, or neither, wherever its first thing stands: its room stays, and it goes on like one that is new.
func TestClear(t *testing.T) {
	for _, room := range []int{0, 1, 2, 3, 4, 7, 64, 1024} {
		for _, gone := range []int{0, 1, room / 2, room - 1, room} {
			for _, many := range []int{0, room / 2, room} {
				if room == 0 {
					gone = 0
				}
				r := turned(t, room, gone, many)
				for range 2 {
					r.Clear()
					has(t, r, room)
					unpopped(t, r, api.ErrEmpty)
				}
				for range 3 { // and it goes round, as one that is new does
					pushed(t, r, count(50, room)...)
					unpushed(t, r, 9, api.ErrFull)
					has(t, r, room, count(50, room)...)
					popped(t, r, count(50, room/2+room%2)...)
					r.Clear()
					has(t, r, room)
				}
				pushed(t, r, count(70, room/2)...)
				has(t, r, room, count(70, room/2)...)
				popped(t, r, count(70, room/2)...)
				unpopped(t, r, api.ErrEmpty)
			}
		}
	}
}

// P7.3: a nil ring, and one that New did not give: ErrNil ahead of all else, and nothing comes in.
func TestNobodys(t *testing.T) {
	nobodys(t, 5)
	nobodys(t, "x")
	nobodys(t, struct{}{})
	nobodys[error](t, api.ErrArg)
}

func nobodys[T comparable](t *testing.T, x T) {
	t.Helper()
	var none T
	var zero Ring[T]
	for _, r := range []*Ring[T]{nil, {}, new(Ring[T]), &zero} {
		for range 2 {
			unpushed(t, r, x, api.ErrNil)
			unpushed(t, r, none, api.ErrNil)
			unpopped(t, r, api.ErrNil)
			for _, i := range append(noPlaces(0, 0), 0, 1, 5) {
				at(t, r, i, none, api.ErrNil)
			}
			if r.Len() != 0 || r.Room() != 0 || len(r.List()) != 0 {
				t.Errorf("%d of %d, %v; want nothing", r.Len(), r.Room(), r.List())
			}
			r.Clear()
		}
	}
}

// P7.1, P7.2: things may be of any type, and a zero value is a thing like others.
func TestAnyThing(t *testing.T) {
	type spot struct {
		name string
		at   [2]int
	}
	anyThing(t, 0, 1)
	anyThing(t, "", "x")
	anyThing(t, false, true)
	anyThing(t, byte(0), byte(255))
	anyThing(t, 0.0, math.Inf(1))
	anyThing(t, struct{}{}, struct{}{})
	anyThing(t, spot{}, spot{"x", [2]int{1, 2}})
	anyThing(t, [3]string{}, [3]string{"a", "", "c"})
	anyThing[*int](t, nil, new(int))
	anyThing[error](t, nil, api.ErrArg)
	anyThing[any](t, nil, 5)
	anyThing(t, make(chan int), nil)
	anyThing(t, nil, ring[int](t, 1))
}

// anyThing fails, unless a ring takes in and gives out none and x, as often as they come, and in the order in which they do.
func anyThing[T comparable](t *testing.T, none, x T) {
	t.Helper()
	r := ring[T](t, 3)
	for range 5 {
		pushed(t, r, none, x)
		has(t, r, 3, none, x)
		pushed(t, r, none)
		unpushed(t, r, x, api.ErrFull)
		unpushed(t, r, none, api.ErrFull)
		has(t, r, 3, none, x, none)
		popped(t, r, none)
		pushed(t, r, x)
		has(t, r, 3, x, none, x)
		popped(t, r, x, none)
		has(t, r, 3, x)
		popped(t, r, x)
		unpopped(t, r, api.ErrEmpty)
	}
	pushed(t, r, x, x, none)
	r.Clear()
	has(t, r, 3)
}

// P7.1, P7.2: things that can't be held against each other: lists, maps and functions.
func TestUncomparable(t *testing.T) {
	lists, maps, calls := ring[[]int](t, 2), ring[map[string]int](t, 2), ring[func() int](t, 2)
	for i := range 7 {
		pushed(t, lists, []int{i, i + 1})
		pushed(t, maps, map[string]int{"x": i})
		pushed(t, calls, func() int { return i })
		if i > 0 {
			a, _ := lists.Pop()
			b, _ := maps.Pop()
			c, _ := calls.Pop()
			if !slices.Equal(a, []int{i - 1, i}) || b["x"] != i-1 || c() != i-1 {
				t.Fatalf("round %d: %v, %v, %d", i, a, b, c())
			}
		}
	}
	if a, b, c := len(lists.List()), len(maps.List()), len(calls.List()); a != 1 || b != 1 || c != 1 {
		t.Errorf("%d, %d, %d; want one of each", a, b, c)
	}
}

// P7.1, P7.2: a thing is kept as it was handed in: what is done to the caller's own variable, or to what At answered, doesn't reach it.
func TestThingsOwn(t *testing.T) {
	r := ring[[2]int](t, 2)
	x := [2]int{1, 2}
	pushed(t, r, x)
	x[0] = 9
	got, _ := r.At(0)
	got[1] = 9
	has(t, r, 2, [2]int{1, 2})
	popped(t, r, [2]int{1, 2})
}

// What went is kept nowhere, whether it was popped or let go.
func TestGone(t *testing.T) {
	for room := 1; room <= 4; room++ {
		r := ring[int](t, room)
		for i := range 3 * room {
			pushed(t, r, count(1, i%room+1)...)
			for r.Len() > 0 {
				r.Pop()
				if kept := len(slices.DeleteFunc(slices.Clone(r.own.places), func(x int) bool { return x == 0 })); kept != r.Len() {
					t.Fatalf("room %d: %d are kept; want %d", room, kept, r.Len())
				}
			}
		}
		pushed(t, r, count(1, room)...)
		r.Clear()
		if got := r.own.places[:cap(r.own.places)]; slices.ContainsFunc(got, func(x int) bool { return x != 0 }) {
			t.Fatalf("room %d: %v is kept", room, got)
		}
	}
}

// P7.4: two rings have nothing in common.
func TestTwoRings(t *testing.T) {
	a, b := ring[int](t, 2), ring[int](t, 3)
	pushed(t, a, 5, 6)
	has(t, b, 3)
	pushed(t, b, 7)
	popped(t, a, 5)
	has(t, b, 3, 7)
	a.Clear()
	has(t, b, 3, 7)
	has(t, a, 2)
}

// P7.4: a ring that is copied is another name of the same one: what comes in by one of them goes out by any, once.
func TestCopy(t *testing.T) {
	r := ring[int](t, 3)
	other := *r
	pushed(t, r, 5)
	pushed(t, &other, 6)
	has(t, &other, 3, 5, 6)
	popped(t, &other, 5)
	pushed(t, r, 7, 8)
	unpushed(t, &other, 9, api.ErrFull)
	has(t, r, 3, 6, 7, 8)
	other.Clear()
	has(t, r, 3)
}

// P7.4: a ring goes round many times over, with so many things in it all the while: they come out in the order in which they came in, each once.
func TestRound(t *testing.T) {
	for _, room := range []int{1, 2, 3, 7, 64, 1023, 1024} {
		for _, many := range []int{1, room / 2, room - 1, room} {
			if many < 1 {
				continue
			}
			r := ring[int](t, room)
			pushed(t, r, count(0, many-1)...)
			for i := range 20*room + 5 {
				pushed(t, r, many-1+i)
				at(t, r, 0, i, api.OK)
				at(t, r, many-1, many-1+i, api.OK)
				if r.Len() != many {
					t.Fatalf("room %d: %d; want %d", room, r.Len(), many)
				}
				if many == room {
					unpushed(t, r, -1, api.ErrFull)
				}
				if i%room == room/2 {
					has(t, r, room, count(i, many)...)
				}
				popped(t, r, i)
			}
			has(t, r, room, count(20*room+5, many-1)...)
		}
	}
}

// model is a ring told another way: what it holds, in order.
type model struct {
	room   int
	things []int
}

// push, pop and empty do to both what they say, and fail, unless the ring answers what the model does.
func (m *model) push(t *testing.T, r *Ring[int], x int) {
	t.Helper()
	if len(m.things) == m.room {
		unpushed(t, r, x, api.ErrFull)
		return
	}
	m.things = append(m.things, x)
	pushed(t, r, x)
}

func (m *model) pop(t *testing.T, r *Ring[int]) {
	t.Helper()
	if len(m.things) == 0 {
		unpopped(t, r, api.ErrEmpty)
		return
	}
	popped(t, r, m.things[0])
	m.things = m.things[1:]
}

func (m *model) empty(r *Ring[int]) {
	m.things = nil
	r.Clear()
}

// look fails, unless the ring answers what the model does.
func (m *model) look(t *testing.T, r *Ring[int]) {
	t.Helper()
	has(t, r, m.room, m.things...)
}

// P7.1, P7.2, P7.4: all runs of up to so many calls of small rings.
func TestAllCalls(t *testing.T) {
	for room := range 5 {
		total := 1
		for calls := range 10 {
			for code := range total {
				r, m := ring[int](t, room), &model{room: room}
				for i := range calls {
					switch code % 3 {
					case 0:
						m.push(t, r, i+1)
					case 1:
						m.pop(t, r)
					default:
						m.empty(r)
					}
					code /= 3
				}
				m.look(t, r)
			}
			total *= 3
		}
	}
}

// P7.1, P7.2, P7.4: long runs of calls, of rings of many rooms.
func TestManyCalls(t *testing.T) {
	for _, room := range rooms {
		t.Run(strconv.Itoa(room), func(t *testing.T) { manyCalls(t, room) })
	}
}

func manyCalls(t *testing.T, room int) {
	rnd := rand.New(rand.NewSource(int64(room)))
	r, m := ring[int](t, room), &model{room: room}
	for i := range 30000 {
		filling := i/(2*room+9)%2 == 0 // so that the ring is full for a while, and empty for a while
		n := rnd.Intn(8)
		switch {
		case n == 0 && rnd.Intn(room+5) == 0:
			m.empty(r)
		case n < 3 || n < 6 && filling:
			m.push(t, r, rnd.Int()-rnd.Int())
		default:
			m.pop(t, r)
		}
		if i%(room/8+1) == 0 { // the more it holds, the longer a look takes
			m.look(t, r)
		}
	}
	m.look(t, r)
	for len(m.things) > 0 {
		m.pop(t, r)
	}
	m.pop(t, r)
	m.look(t, r)
}

// P7.4: from ring to ring the same calls have the same answers.
func TestSame(t *testing.T) {
	run := func() []int {
		var out []int
		r := ring[int](t, 5)
		for i := range 90 {
			out = append(out, int(r.Push(i)), r.Len(), r.Room())
			x, e := r.At(i % 6)
			out = append(out, x, int(e))
			out = append(out, r.List()...)
			if i%3 > 0 {
				x, e = r.Pop()
				out = append(out, x, int(e))
			}
			if i%17 == 16 {
				r.Clear()
			}
		}
		return out
	}
	first := run()
	for range 5 {
		if !slices.Equal(run(), first) {
			t.Fatal("the same calls, other answers")
		}
	}
}
