package queue

import (
	"math"
	"math/rand"
	"slices"
	"strconv"
	"testing"

	"becket/api"
)

// noQueues are numbers that are no queue's of a pool of so many.
func noQueues(many int) []int {
	return []int{math.MinInt, -1 << 32, -65, -64, -2, -1, many, many + 1, 64, 65, 1024, 1 << 32, math.MaxInt}
}

// pool is a pool of so many queues, with that room.
func pool(t *testing.T, queues, room int) *Pool {
	t.Helper()
	p, e := New(queues, room)
	if p == nil || e != api.OK {
		t.Fatalf("New(%d, %d): %v, %d", queues, room, p, e)
	}
	return p
}

// pushed fails, unless Push takes all the numbers.
func pushed(t *testing.T, p *Pool, q int, xs ...int) {
	t.Helper()
	for _, x := range xs {
		if e := p.Push(q, x); e != api.OK {
			t.Fatalf("Push(%d, %d): %d; want 0", q, x, e)
		}
	}
}

// unpushed fails, unless Push gives that error.
func unpushed(t *testing.T, p *Pool, q, x int, want api.Errno) {
	t.Helper()
	if e := p.Push(q, x); e != want {
		t.Fatalf("Push(%d, %d): %d; want %d", q, x, e, want)
	}
}

// popped fails, unless the numbers are first, and are popped, one behind the other.
func popped(t *testing.T, p *Pool, q int, xs ...int) {
	t.Helper()
	for _, x := range xs {
		first(t, p, q, x, api.OK)
		if got, e := p.Pop(q); got != x || e != api.OK {
			t.Fatalf("Pop(%d): %d, %d; want %d, 0", q, got, e, x)
		}
	}
}

// unpopped fails, unless Pop and First give that error, and nothing beside it.
func unpopped(t *testing.T, p *Pool, q int, want api.Errno) {
	t.Helper()
	first(t, p, q, 0, want)
	if got, e := p.Pop(q); got != 0 || e != want {
		t.Fatalf("Pop(%d): %d, %d; want 0, %d", q, got, e, want)
	}
}

// first fails, unless First gives that, as often as it is asked.
func first(t *testing.T, p *Pool, q, x int, want api.Errno) {
	t.Helper()
	for range 2 {
		if got, e := p.First(q); got != x || e != want {
			t.Fatalf("First(%d): %d, %d; want %d, %d", q, got, e, x, want)
		}
	}
}

// removed fails, unless Remove answers that.
func removed(t *testing.T, p *Pool, q, x int, want bool) {
	t.Helper()
	if got := p.Remove(q, x); got != want {
		t.Fatalf("Remove(%d, %d): %v; want %v", q, x, got, want)
	}
}

// has fails, unless the queue has those numbers.
func has(t *testing.T, p *Pool, q int, xs ...int) {
	t.Helper()
	if got := p.List(q); !slices.Equal(got, xs) || p.Len(q) != len(xs) {
		t.Fatalf("queue %d: %d numbers, %v; want %d, %v", q, p.Len(q), got, len(xs), xs)
	}
	if len(xs) > 0 {
		first(t, p, q, xs[0], api.OK)
	} else {
		first(t, p, q, 0, api.ErrEmpty)
	}
}

// free fails, unless there is so much room.
func free(t *testing.T, p *Pool, want int) {
	t.Helper()
	if got := p.Free(); got != want {
		t.Fatalf("Free: %d; want %d", got, want)
	}
}

// count are the numbers from one on, so many.
func count(from, many int) []int {
	var out []int
	for i := range many {
		out = append(out, from+i)
	}
	return out
}

// The chapter's example.
func TestExample(t *testing.T) {
	p := pool(t, 2, 3)
	pushed(t, p, 0, 5, 6)
	pushed(t, p, 1, 7)
	popped(t, p, 0, 5)
	has(t, p, 0, 6)
	has(t, p, 1, 7)
	free(t, p, 1)
}

// P3.1: New of so many queues and such rooms as may be, the edges of both among them: all queues are empty and are there, no other one is, and one queue may have the whole room, first or last.
func TestNew(t *testing.T) {
	for _, queues := range []int{1, 2, 63, 64} {
		for _, room := range []int{0, 1, 2, 64, 1023, 1024} {
			for _, whole := range []int{0, queues - 1} {
				p := pool(t, queues, room)
				free(t, p, room)
				for q := range queues {
					has(t, p, q)
				}
				pushed(t, p, whole, count(1, room)...)
				free(t, p, 0)
				for q := range queues {
					unpushed(t, p, q, 5, api.ErrFull)
				}
				unpushed(t, p, queues, 5, api.ErrRange)
				has(t, p, whole, count(1, room)...)
				popped(t, p, whole, count(1, room)...)
				unpopped(t, p, whole, api.ErrEmpty)
				free(t, p, room)
			}
		}
	}
}

// P3.1: New of what may not be, one of both or both: no pool beside the error.
func TestNewArg(t *testing.T) {
	queues := []int{math.MinInt, -64, -1, 0, 65, 66, 128, 1 << 32, 1<<32 + 1, math.MaxInt}
	rooms := []int{math.MinInt, -1024, -2, -1, 1025, 1026, 2048, 1 << 32, 1<<32 + 1, math.MaxInt}
	refuse := func(queues, room int) {
		if p, e := New(queues, room); p != nil || e != api.ErrArg {
			t.Errorf("New(%d, %d): %v, %d; want nil, ErrArg", queues, room, p, e)
		}
	}
	for _, many := range queues {
		for _, room := range append([]int{0, 1, 5, 1024}, rooms...) {
			refuse(many, room)
		}
	}
	for _, room := range rooms {
		for _, many := range []int{1, 5, 64} {
			refuse(many, room)
		}
	}
}

// P3.1: a number comes behind those that are there, and into no other queue.
func TestPush(t *testing.T) {
	p := pool(t, 3, 6)
	pushed(t, p, 2, 9)
	pushed(t, p, 0, 4)
	pushed(t, p, 2, 3)
	pushed(t, p, 0, 8)
	pushed(t, p, 2, 9)
	has(t, p, 0, 4, 8)
	has(t, p, 1)
	has(t, p, 2, 9, 3, 9)
	free(t, p, 1)
	popped(t, p, 0, 4)
	pushed(t, p, 0, 2)
	has(t, p, 0, 8, 2)
}

// P3.1: any number may be in a queue, the ends of its type too, and a 0 is a number like others.
func TestAnyNumber(t *testing.T) {
	xs := []int{math.MinInt, math.MinInt + 1, -1 << 32, -1, 0, 1, 1 << 32, math.MaxInt - 1, math.MaxInt, 0, -1}
	p := pool(t, 2, 2*len(xs))
	pushed(t, p, 0, xs...)
	pushed(t, p, 1, xs...)
	has(t, p, 0, xs...)
	popped(t, p, 0, xs...)
	unpopped(t, p, 0, api.ErrEmpty)
	for i, x := range xs {
		has(t, p, 1, xs[i:]...)
		removed(t, p, 1, x, true)
	}
	has(t, p, 1)
	for _, x := range xs {
		removed(t, p, 1, x, false)
	}
}

// P3.1: a full pool: no queue takes any more, whichever has the numbers, and takes just one for each that goes.
func TestFull(t *testing.T) {
	p := pool(t, 3, 4)
	pushed(t, p, 0, 1, 2)
	pushed(t, p, 1, 3, 4)
	for q := range 3 {
		unpushed(t, p, q, 9, api.ErrFull)
	}
	has(t, p, 0, 1, 2)
	has(t, p, 1, 3, 4)
	has(t, p, 2)
	free(t, p, 0)
	popped(t, p, 0, 1)
	pushed(t, p, 2, 5)
	unpushed(t, p, 2, 6, api.ErrFull)
	removed(t, p, 1, 4, true)
	pushed(t, p, 0, 7)
	unpushed(t, p, 1, 8, api.ErrFull)
	has(t, p, 0, 2, 7)
	has(t, p, 1, 3)
	has(t, p, 2, 5)
	free(t, p, 0)
}

// P3.1, P3.2, P3.3: queues that are not there: ErrRange, ahead of what else is wrong, and nothing changes.
func TestNoSuchQueue(t *testing.T) {
	for _, c := range []struct{ queues, room, left int }{{1, 0, 0}, {1, 3, 0}, {1, 3, 1}, {3, 5, 2}, {63, 9, 4}, {64, 1024, 0}, {64, 1024, 1024}} {
		p := pool(t, c.queues, c.room)
		xs := count(1, c.room-c.left)
		pushed(t, p, c.queues-1, xs...)
		for _, q := range noQueues(c.queues) {
			if q >= 0 && q < c.queues {
				continue
			}
			unpushed(t, p, q, 1, api.ErrRange)
			unpopped(t, p, q, api.ErrRange)
			for _, x := range []int{0, 1, 2, -1} {
				removed(t, p, q, x, false)
			}
			if got := p.List(q); len(got) != 0 || p.Len(q) != 0 {
				t.Errorf("queue %d of %d: %v, %d; want nothing, 0", q, c.queues, got, p.Len(q))
			}
		}
		has(t, p, c.queues-1, xs...)
		free(t, p, c.left)
	}
}

// P3.2: First stays, Pop goes; a queue that was emptied is as one that is new.
func TestPop(t *testing.T) {
	p := pool(t, 2, 3)
	for range 3 {
		unpopped(t, p, 0, api.ErrEmpty)
		unpopped(t, p, 1, api.ErrEmpty)
		pushed(t, p, 0, 5, 5, 6)
		unpopped(t, p, 1, api.ErrEmpty)
		popped(t, p, 0, 5)
		has(t, p, 0, 5, 6)
		free(t, p, 1)
		popped(t, p, 0, 5)
		has(t, p, 0, 6)
		popped(t, p, 0, 6)
		has(t, p, 0)
		free(t, p, 3)
		unpopped(t, p, 0, api.ErrEmpty)
	}
}

// P3.2: Remove of a number that is first, last, in the middle, alone, or there more than once; and, behind it, the queue still grows and goes in order.
func TestRemove(t *testing.T) {
	cases := []struct {
		xs   []int
		x    int
		left []int
	}{
		{[]int{5}, 5, nil},
		{[]int{5, 6}, 5, []int{6}},
		{[]int{5, 6}, 6, []int{5}},
		{[]int{5, 6, 7}, 5, []int{6, 7}},
		{[]int{5, 6, 7}, 6, []int{5, 7}},
		{[]int{5, 6, 7}, 7, []int{5, 6}},
		{[]int{5, 6, 7, 8}, 6, []int{5, 7, 8}},
		{[]int{5, 6, 7, 8}, 7, []int{5, 6, 8}},
		{[]int{5, 5}, 5, []int{5}},
		{[]int{5, 6, 5}, 5, []int{6, 5}},
		{[]int{6, 5, 5}, 5, []int{6, 5}},
		{[]int{6, 5, 7, 5}, 5, []int{6, 7, 5}},
		{[]int{6, 5, 7, 5, 8, 5}, 5, []int{6, 7, 5, 8, 5}},
		{[]int{0, 6, 0}, 0, []int{6, 0}},
		{[]int{-1, 1, -1}, -1, []int{1, -1}},
	}
	for _, c := range cases {
		for q := range 3 {
			p := pool(t, 3, 12)
			pushed(t, p, q, c.xs...)
			removed(t, p, q, c.x, true)
			has(t, p, q, c.left...)
			free(t, p, 12-len(c.left))
			pushed(t, p, q, 90, 91)
			has(t, p, q, append(slices.Clone(c.left), 90, 91)...)
			popped(t, p, q, append(slices.Clone(c.left), 90, 91)...)
			unpopped(t, p, q, api.ErrEmpty)
			free(t, p, 12)
		}
	}
}

// P3.2: Remove of a number that the queue has not, though another one has it, or it was there: nothing changes.
func TestRemoveNone(t *testing.T) {
	p := pool(t, 3, 9)
	removed(t, p, 0, 0, false)
	removed(t, p, 0, 5, false)
	pushed(t, p, 0, 5, 6, 7)
	pushed(t, p, 1, 8, 7)
	for _, x := range []int{8, 0, -5, 4, 9, math.MinInt, math.MaxInt, 1<<32 + 5} {
		removed(t, p, 0, x, false)
	}
	removed(t, p, 2, 5, false)
	removed(t, p, 1, 5, false)
	popped(t, p, 0, 5)
	removed(t, p, 0, 5, false)
	removed(t, p, 0, 7, true)
	removed(t, p, 0, 7, false)
	has(t, p, 0, 6)
	has(t, p, 1, 8, 7)
	has(t, p, 2)
	free(t, p, 6)
}

// P3.2: each one of the greatest queue's numbers may be removed, from either side, or from the middle on.
func TestRemoveGreatest(t *testing.T) {
	for _, from := range []int{0, 512, 1023} {
		p := pool(t, 64, 1024)
		pushed(t, p, 63, count(0, 1024)...)
		left := count(0, 1024)
		for len(left) > 0 {
			i := min(from, len(left)-1)
			removed(t, p, 63, left[i], true)
			left = slices.Delete(left, i, i+1)
			if len(left)%97 == 0 {
				has(t, p, 63, left...)
				free(t, p, 1024-len(left))
			}
		}
		pushed(t, p, 0, count(7, 1024)...)
		has(t, p, 0, count(7, 1024)...)
		has(t, p, 63)
	}
}

// P3.3: what List answers is the caller's: writing to it, and appending to it, changes nothing; and it stays as it was.
func TestListNew(t *testing.T) {
	p := pool(t, 2, 4)
	pushed(t, p, 0, 5, 6)
	a, b := p.List(0), p.List(0)
	a[0], a[1] = 8, 9
	_ = append(a, 1)
	has(t, p, 0, 5, 6)
	popped(t, p, 0, 5)
	pushed(t, p, 0, 7, 8)
	if !slices.Equal(b, []int{5, 6}) {
		t.Errorf("%v; want 5, 6", b)
	}
}

// P3.4: a nil pool, and one that New did not give: ErrNil ahead of all else.
func TestNobodys(t *testing.T) {
	var none Pool
	for _, p := range []*Pool{nil, {}, new(Pool), &none} {
		for range 2 {
			for _, q := range append([]int{0, 1, 63}, noQueues(1)...) {
				unpushed(t, p, q, 5, api.ErrNil)
				unpopped(t, p, q, api.ErrNil)
				removed(t, p, q, 5, false)
				removed(t, p, q, 0, false)
				if got := p.List(q); len(got) != 0 || p.Len(q) != 0 {
					t.Errorf("queue %d: %v, %d; want nothing, 0", q, got, p.Len(q))
				}
			}
			free(t, p, 0)
		}
	}
}

// P3.5: two pools have nothing in common.
func TestTwoPools(t *testing.T) {
	a, b := pool(t, 2, 2), pool(t, 2, 2)
	pushed(t, a, 0, 5, 6)
	free(t, b, 2)
	has(t, b, 0)
	pushed(t, b, 0, 7)
	popped(t, a, 0, 5)
	has(t, a, 0, 6)
	has(t, b, 0, 7)
}

// P3.5: each queue's numbers come out in their order, each once, while the others' come and go in their own, in a pool that is full now and then.
func TestOrder(t *testing.T) {
	for _, room := range []int{1, 10, 64, 1024} {
		p := pool(t, 64, room)
		var in, out [64]int // how many numbers have come into a queue, and have gone
		for step := range 20000 {
			q := step * step / 5 % 64
			switch {
			case step/1024%2 == 0 && p.Free() > 0:
				pushed(t, p, q, 1000*q+in[q])
				in[q]++
			case out[q] < in[q]:
				popped(t, p, q, 1000*q+out[q])
				out[q]++
			default:
				unpopped(t, p, q, api.ErrEmpty)
			}
		}
		for q := range 64 {
			popped(t, p, q, count(1000*q+out[q], in[q]-out[q])...)
			unpopped(t, p, q, api.ErrEmpty)
		}
		free(t, p, room)
	}
}

// model is a pool told another way: a list for each queue.
type model struct {
	queues [][]int
	room   int
}

// free is how much room there is.
func (m *model) free() int {
	n := m.room
	for _, xs := range m.queues {
		n -= len(xs)
	}
	return n
}

// check is the error of asking for a queue, and for its first number if one is needed.
func (m *model) check(q int, needed bool) api.Errno {
	if q < 0 || q >= len(m.queues) {
		return api.ErrRange
	}
	if needed && len(m.queues[q]) == 0 {
		return api.ErrEmpty
	}
	return api.OK
}

// push, pop and remove do to both what they say, and fail, unless the pool answers what the model does.
func (m *model) push(t *testing.T, p *Pool, q, x int) {
	t.Helper()
	want := m.check(q, false)
	if want == api.OK && m.free() == 0 {
		want = api.ErrFull
	}
	unpushed(t, p, q, x, want)
	if want == api.OK {
		m.queues[q] = append(m.queues[q], x)
	}
}

func (m *model) pop(t *testing.T, p *Pool, q int) {
	t.Helper()
	if want := m.check(q, true); want != api.OK {
		unpopped(t, p, q, want)
		return
	}
	popped(t, p, q, m.queues[q][0])
	m.queues[q] = m.queues[q][1:]
}

func (m *model) remove(t *testing.T, p *Pool, q, x int) {
	t.Helper()
	i := -1
	if m.check(q, false) == api.OK {
		i = slices.Index(m.queues[q], x)
	}
	removed(t, p, q, x, i >= 0)
	if i >= 0 {
		m.queues[q] = slices.Concat(m.queues[q][:i], m.queues[q][i+1:])
	}
}

// look fails, unless the pool answers what the model does.
func (m *model) look(t *testing.T, p *Pool) {
	t.Helper()
	free(t, p, m.free())
	for q, xs := range m.queues {
		has(t, p, q, xs...)
	}
}

// both is a pool, and its model.
func both(t *testing.T, queues, room int) (*Pool, *model) {
	t.Helper()
	return pool(t, queues, room), &model{make([][]int, queues), room}
}

// P3.5: all runs of so many calls of small pools, with numbers that come more than once.
func TestAllCalls(t *testing.T) {
	for _, c := range []struct{ queues, room, numbers, calls int }{{1, 0, 1, 4}, {1, 1, 2, 5}, {1, 2, 2, 6}, {1, 4, 2, 6}, {2, 1, 1, 5}, {2, 2, 2, 4}, {2, 3, 1, 6}, {2, 5, 2, 4}, {3, 2, 1, 4}} {
		kinds := c.queues * (1 + 2*c.numbers)
		total := 1
		for range c.calls {
			total *= kinds
		}
		for code := range total {
			p, m := both(t, c.queues, c.room)
			for range c.calls {
				kind := code % kinds
				code /= kinds
				q, x := kind%c.queues, kind/c.queues
				switch {
				case x == 0:
					m.pop(t, p, q)
				case x <= c.numbers:
					m.push(t, p, q, x)
				default:
					m.remove(t, p, q, x-c.numbers)
				}
			}
			m.look(t, p)
		}
	}
}

// P3.5: long runs of calls, of pools of many sizes: what comes and goes, and what is looked up in vain.
func TestManyCalls(t *testing.T) {
	for _, queues := range []int{1, 2, 5, 64} {
		for _, room := range []int{0, 1, 2, 7, 60, 1024} {
			t.Run(strconv.Itoa(queues)+"."+strconv.Itoa(room), func(t *testing.T) { manyCalls(t, queues, room) })
		}
	}
}

func manyCalls(t *testing.T, queues, room int) {
	r := rand.New(rand.NewSource(int64(queues*10000 + room)))
	p, m := both(t, queues, room)
	for i := range 6000 {
		q, x := r.Intn(queues+2)-1, r.Intn(20)-2
		filling := i/1500%2 == 0 // so that the pool is full for a while, and empty for a while
		switch n := r.Intn(8); {
		case n < 2 || n < 5 && filling:
			m.push(t, p, q, x)
		case n < 6:
			m.pop(t, p, q)
		default:
			m.remove(t, p, q, x)
		}
		if i%50 == 49 {
			m.look(t, p)
		}
	}
	m.look(t, p)
}

// A value of a pool that is copied is a pool of its own, whole: neither has the other one's calls.
func TestCopy(t *testing.T) {
	p := pool(t, 2, 3)
	pushed(t, p, 0, 5, 6)
	c := *p
	pushed(t, p, 0, 7)
	popped(t, &c, 0, 5)
	pushed(t, &c, 1, 8, 9)
	has(t, p, 0, 5, 6, 7)
	has(t, p, 1)
	free(t, p, 0)
	has(t, &c, 0, 6)
	has(t, &c, 1, 8, 9)
	free(t, &c, 0)
}

// P3.5: from pool to pool the same calls have the same answers.
func TestSame(t *testing.T) {
	run := func() []int {
		var out []int
		p := pool(t, 3, 7)
		for i := range 60 {
			out = append(out, int(p.Push(i%3, i%11)))
			if i%4 == 0 {
				x, e := p.Pop(i % 2)
				out = append(out, x, int(e))
			}
			if p.Remove(i%3, i%5) {
				out = append(out, 1)
			}
			out = append(out, p.Len(i%3), p.Free())
			out = append(out, p.List(i%3)...)
		}
		return out
	}
	first := run()
	for range 5 {
		if !slices.Equal(run(), first) {
			t.Fatal("the same calls, other answers")
		}
	}
}
