package arena

import (
	"math"
	"math/rand"
	"slices"
	"strconv"
	"testing"

	"becket/api"
)

// noHandles are numbers that are no handles: below the first one, behind the last one, and at the ends of the type.
var noHandles = []int{math.MinInt, -268435455, -8197, -4097, -4096, -4095, -1, 0, 1, 5, 4094, 4095, 268435456, 268435457, 1 << 32, 1<<32 + 4096, math.MaxInt}

// table is a table of that room and last generation.
func table[T any](t *testing.T, room, last int) *Table[T] {
	t.Helper()
	a, e := New[T](room, last)
	if a == nil || e != api.OK {
		t.Fatalf("New(%d, %d): %v, %d", room, last, a, e)
	}
	return a
}

// h is the handle of a slot and a generation.
func h(slot, gen int) int { return 4096*gen + slot }

// added fails, unless Add gives that handle.
func added[T any](t *testing.T, a *Table[T], x T, want int) {
	t.Helper()
	if got, e := a.Add(x); got != want || e != api.OK {
		t.Fatalf("Add: %d, %d; want %d, 0", got, e, want)
	}
}

// full fails, unless Add gives ErrFull.
func full[T any](t *testing.T, a *Table[T], x T) {
	t.Helper()
	if got, e := a.Add(x); got != 0 || e != api.ErrFull {
		t.Fatalf("Add: %d, %d; want 0, ErrFull", got, e)
	}
}

// dropped fails, unless Drop gives OK.
func dropped[T any](t *testing.T, a *Table[T], h int) {
	t.Helper()
	if e := a.Drop(h); e != api.OK {
		t.Fatalf("Drop(%d): %d; want 0", h, e)
	}
}

// holds fails, unless the handle's thing is x.
func holds[T comparable](t *testing.T, a *Table[T], h int, x T) {
	t.Helper()
	if got, e := a.Get(h); got != x || e != api.OK {
		t.Fatalf("Get(%d): %v, %d; want %v, 0", h, got, e, x)
	}
}

// refused fails, unless Get, Set and Drop of the handle all give that error, and Get nothing beside it.
func refused[T comparable](t *testing.T, a *Table[T], h int, x T, want api.Errno) {
	t.Helper()
	var none T
	if got, e := a.Get(h); got != none || e != want {
		t.Errorf("Get(%d): %v, %d; want nothing, %d", h, got, e, want)
	}
	if e := a.Set(h, x); e != want {
		t.Errorf("Set(%d): %d; want %d", h, e, want)
	}
	if e := a.Drop(h); e != want {
		t.Errorf("Drop(%d): %d; want %d", h, e, want)
	}
}

// counted fails, unless the table has those handles, and so many free slots.
func counted[T any](t *testing.T, a *Table[T], free int, handles ...int) {
	t.Helper()
	if a.Len() != len(handles) || a.Free() != free || !slices.Equal(a.Handles(), handles) {
		t.Fatalf("%d things, %d free, handles %v; want %d, %d, %v", a.Len(), a.Free(), a.Handles(), len(handles), free, handles)
	}
}

// P2.1: New of rooms and last generations that may be, the edges of both among them.
func TestNew(t *testing.T) {
	for _, room := range []int{1, 2, 64, 4095, 4096} {
		for _, last := range []int{1, 2, 4096, 65534, 65535} {
			a := table[string](t, room, last)
			counted(t, a, room)
			for slot := range room {
				added(t, a, "x", h(slot, 1))
			}
			full(t, a, "y")
		}
	}
}

// P2.1: New of what may not be, one of both or both: no table beside the error.
func TestNewArg(t *testing.T) {
	rooms := []int{math.MinInt, -4096, -1, 0, 4097, 4098, 8192, 1 << 32, 1<<32 + 1, math.MaxInt}
	lasts := []int{math.MinInt, -65535, -1, 0, 65536, 65537, 1 << 32, 1<<32 + 1, math.MaxInt}
	refuse := func(room, last int) {
		if a, e := New[int](room, last); a != nil || e != api.ErrArg {
			t.Errorf("New(%d, %d): %v, %d; want nil, ErrArg", room, last, a, e)
		}
	}
	for _, room := range rooms {
		for _, last := range append([]int{1, 2, 65535}, lasts...) {
			refuse(room, last)
		}
	}
	for _, last := range lasts {
		for _, room := range []int{1, 5, 4096} {
			refuse(room, last)
		}
	}
}

// The chapter's example.
func TestExample(t *testing.T) {
	a := table[int](t, 1, 2)
	added(t, a, 5, 4096)
	dropped(t, a, 4096)
	added(t, a, 6, 8192)
	dropped(t, a, 8192)
	full(t, a, 7)
}

// P2.1: a thing comes into the least free slot, whichever went last, and its generation is one more than the one before it there.
func TestAddLeast(t *testing.T) {
	a := table[int](t, 5, 3)
	for slot := range 5 {
		added(t, a, slot, h(slot, 1))
	}
	full(t, a, 9)
	for _, slot := range []int{1, 4, 3} {
		dropped(t, a, h(slot, 1))
	}
	counted(t, a, 3, h(0, 1), h(2, 1))
	added(t, a, 11, h(1, 2))
	added(t, a, 13, h(3, 2))
	dropped(t, a, h(0, 1))
	added(t, a, 10, h(0, 2))
	added(t, a, 14, h(4, 2))
	full(t, a, 9)
	dropped(t, a, h(3, 2))
	added(t, a, 23, h(3, 3))
	counted(t, a, 0, h(0, 2), h(1, 2), h(2, 1), h(3, 3), h(4, 2))
	for i, x := range []int{10, 11, 2, 23, 14} {
		holds(t, a, a.Handles()[i], x)
	}
}

// P2.1: a worn-out slot is passed over for a greater one that is free.
func TestAddPastWornOut(t *testing.T) {
	a := table[int](t, 3, 1)
	added(t, a, 5, h(0, 1))
	added(t, a, 6, h(1, 1))
	dropped(t, a, h(0, 1))
	counted(t, a, 1, h(1, 1))
	added(t, a, 7, h(2, 1))
	counted(t, a, 0, h(1, 1), h(2, 1))
	full(t, a, 8)
	dropped(t, a, h(2, 1))
	dropped(t, a, h(1, 1))
	counted(t, a, 0)
	full(t, a, 8)
	counted(t, a, 0)
}

// P2.1: the whole of the greatest table, slot by slot, and a second time.
func TestAddGreatest(t *testing.T) {
	a := table[int](t, 4096, 2)
	for gen := 1; gen <= 2; gen++ {
		for slot := range 4096 {
			added(t, a, 10*slot+gen, h(slot, gen))
		}
		full(t, a, 0)
		for slot := range 4096 {
			holds(t, a, h(slot, gen), 10*slot+gen)
			dropped(t, a, h(slot, gen))
		}
	}
	counted(t, a, 0)
	full(t, a, 0)
}

// P2.1, P2.2: a slot's thing of each generation up to the last one; then it is worn out.
func TestWornOut(t *testing.T) {
	for _, last := range []int{1, 2, 3, 4096, 65534, 65535} {
		a := table[int](t, 1, last)
		for gen := 1; gen <= last; gen++ {
			counted(t, a, 1)
			added(t, a, gen, h(0, gen))
			counted(t, a, 0, h(0, gen))
			holds(t, a, h(0, gen), gen)
			dropped(t, a, h(0, gen))
		}
		counted(t, a, 0)
		full(t, a, 0)
		refused(t, a, h(0, last), 1, api.ErrStale)
	}
}

// P2.2: Get, Set and Drop of a thing that is there.
func TestGetSetDrop(t *testing.T) {
	a := table[string](t, 3, 9)
	added(t, a, "a", h(0, 1))
	added(t, a, "b", h(1, 1))
	added(t, a, "c", h(2, 1))
	if e := a.Set(h(1, 1), "d"); e != api.OK {
		t.Fatalf("Set: %d", e)
	}
	counted(t, a, 0, h(0, 1), h(1, 1), h(2, 1))
	for range 2 {
		holds(t, a, h(0, 1), "a")
		holds(t, a, h(1, 1), "d")
		holds(t, a, h(2, 1), "c")
	}
	dropped(t, a, h(1, 1))
	counted(t, a, 1, h(0, 1), h(2, 1))
	refused(t, a, h(1, 1), "e", api.ErrStale)
	holds(t, a, h(0, 1), "a")
	holds(t, a, h(2, 1), "c")
	added(t, a, "f", h(1, 2))
	refused(t, a, h(1, 1), "e", api.ErrStale)
	holds(t, a, h(1, 2), "f")
}

// P2.2: numbers that are no handles, and handles of slots that the table has not: ErrRange, whatever the generation.
func TestRange(t *testing.T) {
	for _, room := range []int{1, 5, 4095, 4096} {
		a := table[int](t, room, 2)
		added(t, a, 7, h(0, 1))
		for _, n := range noHandles {
			refused(t, a, n, 9, api.ErrRange)
		}
		for _, slot := range []int{room, room + 1, 4095} {
			for _, gen := range []int{1, 2, 3, 65535} {
				if slot <= 4095 && slot >= room {
					refused(t, a, h(slot, gen), 9, api.ErrRange)
				}
			}
		}
		counted(t, a, room-1, h(0, 1))
		holds(t, a, h(0, 1), 7)
	}
}

// P2.2: handles of slots of the table in which no thing of that generation is: ErrStale.
func TestStale(t *testing.T) {
	for _, room := range []int{4, 4096} {
		a := table[int](t, room, 2)
		for slot := range 4 {
			added(t, a, slot, h(slot, 1))
		}
		dropped(t, a, h(1, 1)) // free again
		dropped(t, a, h(0, 1))
		added(t, a, 10, h(0, 2)) // taken by the second one
		dropped(t, a, h(0, 2))   // worn out
		added(t, a, 11, h(1, 2)) // taken by the second one
		dropped(t, a, h(2, 1))   // free again
		want := map[int]bool{h(1, 2): true, h(3, 1): true}
		slots := []int{0, 1, 2, 3}
		if room > 4 {
			slots = append(slots, 4, room-1) // no thing was there yet
		}
		for _, slot := range slots {
			for _, gen := range []int{1, 2, 3, 65535} {
				if !want[h(slot, gen)] {
					refused(t, a, h(slot, gen), 9, api.ErrStale)
				}
			}
		}
		counted(t, a, room-3, h(1, 2), h(3, 1))
		holds(t, a, h(1, 2), 11)
		holds(t, a, h(3, 1), 3)
	}
}

// P2.3: what Handles answers is the caller's: writing to it, and appending to it, changes nothing.
func TestHandlesNew(t *testing.T) {
	a := table[int](t, 3, 1)
	added(t, a, 5, h(0, 1))
	added(t, a, 6, h(1, 1))
	first, second := a.Handles(), a.Handles()
	first[0], first[1] = 0, 0
	_ = append(first, 1)
	if !slices.Equal(second, []int{h(0, 1), h(1, 1)}) {
		t.Errorf("%v", second)
	}
	counted(t, a, 1, h(0, 1), h(1, 1))
	dropped(t, a, h(0, 1))
	if !slices.Equal(second, []int{h(0, 1), h(1, 1)}) {
		t.Errorf("%v", second)
	}
}

// P2.4: a nil table, and one that New did not give.
func TestNobodys(t *testing.T) {
	var none Table[string]
	for _, a := range []*Table[string]{nil, {}, new(Table[string]), &none} {
		for range 2 {
			if h, e := a.Add("x"); h != 0 || e != api.ErrNil {
				t.Errorf("Add: %d, %d; want 0, ErrNil", h, e)
			}
			for _, n := range append([]int{4096, 8197, 268435455}, noHandles...) {
				refused(t, a, n, "x", api.ErrNil)
			}
			counted(t, a, 0)
		}
	}
}

// P2.1, P2.2: a thing may be of any type, and its zero value is a thing like others.
func TestAnyThing(t *testing.T) {
	type place struct {
		name string
		at   [2]int
	}
	anyThing(t, 0, 1)
	anyThing(t, "", "x")
	anyThing(t, false, true)
	anyThing(t, struct{}{}, struct{}{})
	anyThing(t, place{}, place{"x", [2]int{1, 2}})
	anyThing[*int](t, nil, new(int))
	anyThing[error](t, nil, api.ErrArg)
	anyThing[any](t, nil, 5)
}

// anyThing fails, unless a table keeps none and x, in each other's place too.
func anyThing[T comparable](t *testing.T, none, x T) {
	t.Helper()
	a := table[T](t, 2, 2)
	added(t, a, none, h(0, 1))
	added(t, a, x, h(1, 1))
	full(t, a, x)
	counted(t, a, 0, h(0, 1), h(1, 1))
	holds(t, a, h(0, 1), none)
	holds(t, a, h(1, 1), x)
	if e := a.Set(h(0, 1), x); e != api.OK {
		t.Errorf("Set: %d", e)
	}
	if e := a.Set(h(1, 1), none); e != api.OK {
		t.Errorf("Set: %d", e)
	}
	counted(t, a, 0, h(0, 1), h(1, 1))
	holds(t, a, h(0, 1), x)
	holds(t, a, h(1, 1), none)
	dropped(t, a, h(1, 1))
	dropped(t, a, h(0, 1))
	refused(t, a, h(0, 1), x, api.ErrStale)
	added(t, a, x, h(0, 2))
	refused(t, a, h(0, 1), x, api.ErrStale)
}

// P2.2: a thing is kept as it was handed in: what is done to the caller's own variable, or to what Get answered, doesn't reach it.
func TestThingsOwn(t *testing.T) {
	a := table[[2]int](t, 2, 1)
	x := [2]int{1, 2}
	added(t, a, x, h(0, 1))
	x[0] = 9
	holds(t, a, h(0, 1), [2]int{1, 2})
	y := [2]int{3, 4}
	a.Set(h(0, 1), y)
	y[0] = 9
	got, _ := a.Get(h(0, 1))
	got[1] = 9
	holds(t, a, h(0, 1), [2]int{3, 4})
}

// P2.5: two tables have nothing in common.
func TestTwoTables(t *testing.T) {
	a, b := table[int](t, 2, 2), table[int](t, 2, 2)
	added(t, a, 5, h(0, 1))
	counted(t, b, 2)
	added(t, b, 6, h(0, 1))
	dropped(t, b, h(0, 1))
	holds(t, a, h(0, 1), 5)
	added(t, b, 7, h(0, 2))
	refused(t, a, h(0, 2), 9, api.ErrStale)
}

// model is a table told another way: what each handle that was given stands for, and which of them have gone.
type model struct {
	room, last int
	things     map[int]int // by handle
	gone       map[int]bool
	gens       []int
}

// newModel is the model of a table of free slots.
func newModel(room, last int) *model {
	return &model{room, last, map[int]int{}, map[int]bool{}, make([]int, room)}
}

// free are the free slots, rising.
func (m *model) free() []int {
	var out []int
	for slot, gen := range m.gens {
		if _, there := m.things[h(slot, gen)]; !there && gen < m.last {
			out = append(out, slot)
		}
	}
	return out
}

// handles are those of all things, slot by slot.
func (m *model) handles() []int {
	var out []int
	for slot, gen := range m.gens {
		if _, there := m.things[h(slot, gen)]; there {
			out = append(out, h(slot, gen))
		}
	}
	return out
}

// add puts x into the table and into the model, and fails, unless the handle is the one that it must be, and never was given.
func (m *model) add(t *testing.T, a *Table[int], x int) {
	t.Helper()
	free := m.free()
	if len(free) == 0 {
		full(t, a, x)
		return
	}
	slot := free[0]
	m.gens[slot]++
	n := h(slot, m.gens[slot])
	if _, there := m.things[n]; there || m.gone[n] {
		t.Fatalf("%d is given twice", n)
	}
	m.things[n] = x
	added(t, a, x, n)
}

// expected is the error of a handle.
func (m *model) expected(n int) api.Errno {
	if _, there := m.things[n]; there {
		return api.OK
	}
	if n < 4096 || n >= 4096*65536 || n%4096 >= m.room {
		return api.ErrRange
	}
	return api.ErrStale
}

// set, and drop, do to both what they say, and fail, unless the error is the one that it must be.
func (m *model) set(t *testing.T, a *Table[int], n, x int) {
	t.Helper()
	want := m.expected(n)
	if e := a.Set(n, x); e != want {
		t.Fatalf("Set(%d): %d; want %d", n, e, want)
	}
	if want == api.OK {
		m.things[n] = x
	}
}

func (m *model) drop(t *testing.T, a *Table[int], n int) {
	t.Helper()
	want := m.expected(n)
	if e := a.Drop(n); e != want {
		t.Fatalf("Drop(%d): %d; want %d", n, e, want)
	}
	if want == api.OK {
		delete(m.things, n)
		m.gone[n] = true
	}
}

// look fails, unless the table answers what the model does.
func (m *model) look(t *testing.T, a *Table[int]) {
	t.Helper()
	counted(t, a, len(m.free()), m.handles()...)
	for n, x := range m.things {
		holds(t, a, n, x)
	}
	for n := range m.gone {
		if got, e := a.Get(n); got != 0 || e != api.ErrStale {
			t.Fatalf("Get(%d), which has gone: %d, %d; want 0, ErrStale", n, got, e)
		}
	}
}

// P2.5: all runs of so many calls of small tables, with all handles that they can give.
func TestAllCalls(t *testing.T) {
	for _, c := range []struct{ room, last, calls int }{{1, 1, 7}, {1, 2, 6}, {2, 1, 6}, {2, 2, 5}, {3, 1, 5}, {1, 3, 5}} {
		var handles []int
		for gen := 1; gen <= c.last; gen++ {
			for slot := range c.room {
				handles = append(handles, h(slot, gen))
			}
		}
		kinds := 1 + 2*len(handles)
		total := 1
		for range c.calls {
			total *= kinds
		}
		for code := range total {
			a, m := table[int](t, c.room, c.last), newModel(c.room, c.last)
			for i := range c.calls {
				kind := code % kinds
				code /= kinds
				switch {
				case kind == 0:
					m.add(t, a, i+1)
				case kind%2 == 1:
					m.set(t, a, handles[kind/2], i+1)
				default:
					m.drop(t, a, handles[kind/2-1])
				}
			}
			m.look(t, a)
		}
	}
}

// P2.5: long runs of calls, of tables of many rooms: what comes and goes, and what is looked up in vain.
func TestManyCalls(t *testing.T) {
	for _, room := range []int{1, 2, 7, 64, 300} {
		for _, last := range []int{1, 3, 65535} {
			t.Run(strconv.Itoa(room)+"."+strconv.Itoa(last), func(t *testing.T) { manyCalls(t, room, last) })
		}
	}
}

func manyCalls(t *testing.T, room, last int) {
	r := rand.New(rand.NewSource(int64(room*100000 + last)))
	a, m := table[int](t, room, last), newModel(room, last)
	for i := range 3000 {
		n := h(r.Intn(room+1), r.Intn(min(last, 20)+2))
		if hs := m.handles(); len(hs) > 0 && r.Intn(2) == 0 {
			n = hs[r.Intn(len(hs))]
		}
		switch r.Intn(5) {
		case 0, 1:
			m.add(t, a, i)
		case 2:
			m.set(t, a, n, i)
		case 3:
			m.drop(t, a, n)
		default:
			if got, e := a.Get(n); got != m.things[n] || e != m.expected(n) {
				t.Fatalf("Get(%d): %d, %d; want %d, %d", n, got, e, m.things[n], m.expected(n))
			}
		}
		if i%100 == 99 {
			m.look(t, a)
		}
	}
	m.look(t, a)
}

// P2.1, P2.5: from table to table the same calls have the same answers.
func TestSame(t *testing.T) {
	run := func() []int {
		var out []int
		a := table[int](t, 4, 3)
		for i := range 30 {
			n, e := a.Add(i)
			out = append(out, n, int(e), int(a.Drop(h(i%5, 1+i%3))), a.Len(), a.Free())
			out = append(out, a.Handles()...)
		}
		return out
	}
	first := run()
	for range 5 {
		if !slices.Equal(run(), first) {
			t.Fatal("the same calls, other answers")
		}
	}
}
