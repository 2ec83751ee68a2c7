package bucket

import (
	"math"
	"math/rand"
	"slices"
	"testing"

	"becket/api"
)

// What the document tells: how many buckets there are at most, and the last process.
const (
	mostBuckets = 4
	last        = 15
)

// far are numbers that are none of anything that a table has: the ends of int, and such as lose their height, or their sign, when they are cut to fewer bits.
var far = []int{math.MinInt, math.MinInt + 1, math.MinInt + 3, -1 << 62, -1 << 40, -1<<32 + 1, -1 << 32, -1 << 31, 1 << 31, 1 << 32, 1<<32 + 1, 1<<32 + 3, 1<<32 + 15, 1 << 40, 1 << 62, math.MaxInt - 1, math.MaxInt}

// noProcs are numbers that are no processes.
var noProcs = slices.Concat(far, []int{-65536, -256, -253, -64, -17, -16, -15, -3, -2, -1, 16, 17, 18, 19, 31, 32, 63, 64, 255, 256, 257, 259, 1024, 65536, 65537, 65539})

// noSizes are numbers that no table has of buckets.
var noSizes = slices.Concat(far, []int{-65536, -256, -253, -64, -5, -4, -3, -2, -1, 5, 6, 7, 8, 16, 63, 64, 65, 255, 256, 257, 260, 65536, 65537, 65540})

// noBuckets are numbers of no bucket of a table of so many.
func noBuckets(many int) []int {
	l := slices.Concat(far, []int{-65536, -256, -255, -65, -64, -4, -3, -2, -1, many, many + 1})
	for _, k := range []int{0, 1, 2, 3, 4, 5, 8, 15, 16, 63, 64, 65, 128, 255, 256, 257, 65536, 65537} {
		if k > many {
			l = append(l, k)
		}
	}
	return l
}

// procs are these processes.
func procs(l ...int) []int { return l }

// everybody are the numbers of all processes, rising.
func everybody() []int {
	var l []int
	for p := range last + 1 {
		l = append(l, p)
	}
	return l
}

// table is a table of so many buckets.
func table(t *testing.T, many int) *Table {
	t.Helper()
	b, e := New(many)
	if b == nil || e != api.OK {
		t.Fatalf("New(%d): %v, %d", many, b, e)
	}
	return b
}

// filled is a table of as many buckets as there are lists, into each of which those of its list fell.
func filled(t *testing.T, lists ...[]int) *Table {
	t.Helper()
	b := table(t, len(lists))
	for k, l := range lists {
		falls(t, b, k, l...)
	}
	return b
}

// falls fails, unless Fall takes them all.
func falls(t *testing.T, b *Table, k int, l ...int) {
	t.Helper()
	for _, p := range l {
		if e := b.Fall(k, p); e != api.OK {
			t.Fatalf("Fall(%d, %d): %d; want 0", k, p, e)
		}
	}
}

// fallsNot fails, unless Fall answers that error.
func fallsNot(t *testing.T, b *Table, k, p int, want api.Errno) {
	t.Helper()
	if e := b.Fall(k, p); e != want {
		t.Fatalf("Fall(%d, %d): %d; want %d", k, p, e, want)
	}
}

// flushes fails, unless Flush answers just these.
func flushes(t *testing.T, b *Table, k int, want ...int) {
	t.Helper()
	if who, e := b.Flush(k); !slices.Equal(who, want) || e != api.OK {
		t.Fatalf("Flush(%d): %v, %d; want %v, 0", k, who, e, want)
	}
}

// flushesNot fails, unless Flush answers that error, and nobody.
func flushesNot(t *testing.T, b *Table, k int, want api.Errno) {
	t.Helper()
	if who, e := b.Flush(k); len(who) != 0 || e != want {
		t.Fatalf("Flush(%d): %v, %d; want nobody, %d", k, who, e, want)
	}
}

// where fails, unless Where answers that.
func where(t *testing.T, b *Table, p, k int, in bool) {
	t.Helper()
	if got, is := b.Where(p); got != k || is != in {
		t.Fatalf("Where(%d): %d, %v; want %d, %v", p, got, is, k, in)
	}
}

// has fails, unless the table has so many buckets, and just these in them, as often as it is asked.
func has(t *testing.T, b *Table, lists ...[]int) {
	t.Helper()
	for range 2 {
		if got := b.Many(); got != len(lists) {
			t.Fatalf("Many: %d; want %d", got, len(lists))
		}
		in := [last + 1]int{}
		for k, l := range lists {
			if got := b.List(k); !slices.Equal(got, l) {
				t.Fatalf("List(%d): %v; want %v", k, got, l)
			}
			for _, p := range l {
				in[p] = k + 1
			}
		}
		for p, k := range in {
			where(t, b, p, max(k-1, 0), k > 0)
		}
	}
}

// asIs fails, unless the table has these in its buckets, nobody in any other one, and nothing that may not be in one.
func asIs(t *testing.T, b *Table, lists ...[]int) {
	t.Helper()
	has(t, b, lists...)
	for _, k := range noBuckets(len(lists)) {
		if l := b.List(k); len(l) != 0 {
			t.Fatalf("List(%d) of %d buckets: %v; want nobody", k, len(lists), l)
		}
	}
	for _, p := range noProcs {
		where(t, b, p, 0, false)
	}
}

// The chapter's example.
func TestExample(t *testing.T) {
	b := table(t, 1)
	falls(t, b, 0, 3, 1)
	has(t, b, procs(3, 1))
	flushes(t, b, 0, 3, 1)
	has(t, b, nil)
}

// P24.1: New of all numbers that may be: so many buckets, all empty, none beside them, and each one takes a process.
func TestNew(t *testing.T) {
	for many := range mostBuckets + 1 {
		b := table(t, many)
		asIs(t, b, make([][]int, many)...)
		for k := range many {
			flushes(t, b, k)
		}
		lists := make([][]int, many)
		for k := range many {
			falls(t, b, k, last-k)
			lists[k] = procs(last - k)
			asIs(t, b, lists...)
		}
		for _, k := range noBuckets(many) {
			fallsNot(t, b, k, 0, api.ErrRange)
			flushesNot(t, b, k, api.ErrRange)
		}
		asIs(t, b, lists...)
	}
}

// P24.1: New of numbers that may not be, just beside the edges, and far from them: no table beside the error.
func TestNewArg(t *testing.T) {
	for _, many := range noSizes {
		if b, e := New(many); b != nil || e != api.ErrArg {
			t.Errorf("New(%d): %v, %d; want nil, ErrArg", many, b, e)
		}
	}
}

// P24.1: who falls is the last one in that bucket, and in no other one.
func TestFall(t *testing.T) {
	b := table(t, 3)
	falls(t, b, 1, 9)
	asIs(t, b, nil, procs(9), nil)
	falls(t, b, 2, 0)
	asIs(t, b, nil, procs(9), procs(0))
	falls(t, b, 1, 3, 15)
	asIs(t, b, nil, procs(9, 3, 15), procs(0))
	falls(t, b, 2, 14, 1)
	falls(t, b, 1, 4)
	asIs(t, b, nil, procs(9, 3, 15, 4), procs(0, 14, 1))
	falls(t, b, 0, 2)
	asIs(t, b, procs(2), procs(9, 3, 15, 4), procs(0, 14, 1))
}

// P24.1: each process may fall into each bucket, the first and the last of both too, also where others are.
func TestFallEach(t *testing.T) {
	for many := 1; many <= mostBuckets; many++ {
		for k := range many {
			for p := range last + 1 {
				b := table(t, many)
				lists := make([][]int, many)
				falls(t, b, k, p)
				lists[k] = procs(p)
				has(t, b, lists...)
				q := (p + 1) % (last + 1)
				falls(t, b, k, q)
				lists[k] = procs(p, q)
				has(t, b, lists...)
				flushes(t, b, k, p, q)
				has(t, b, make([][]int, many)...)
			}
		}
	}
}

// P24.1: all sixteen fall into one bucket, whichever it is, in many orders; the others take nobody then, and all come out in order.
func TestAllInOne(t *testing.T) {
	r := rand.New(rand.NewSource(241))
	orders := [][]int{everybody(), everybody()}
	slices.Reverse(orders[1])
	for range 20 {
		orders = append(orders, r.Perm(last+1))
	}
	for many := 1; many <= mostBuckets; many++ {
		for k := range many {
			b := table(t, many) // the same one in all rounds: one that was emptied is as one that is new
			for _, l := range orders {
				falls(t, b, k, l...)
				lists := make([][]int, many)
				lists[k] = l
				asIs(t, b, lists...)
				for into := range many {
					for p := range last + 1 {
						fallsNot(t, b, into, p, api.ErrThere)
					}
					fallsNot(t, b, into, last+1, api.ErrRange)
					if into != k {
						flushes(t, b, into)
					}
				}
				asIs(t, b, lists...)
				flushes(t, b, k, l...)
				asIs(t, b, make([][]int, many)...)
			}
		}
	}
}

// P24.1: all sixteen are spread over all buckets, by turns, and are flushed in all sorts of orders.
func TestAllSpread(t *testing.T) {
	r := rand.New(rand.NewSource(2410))
	for many := 1; many <= mostBuckets; many++ {
		b := table(t, many)
		for range 30 {
			lists := make([][]int, many)
			for i, p := range r.Perm(last + 1) {
				k := i % many
				falls(t, b, k, p)
				lists[k] = append(lists[k], p)
			}
			asIs(t, b, lists...)
			for _, k := range r.Perm(many) {
				flushes(t, b, k, lists[k]...)
				lists[k] = nil
				asIs(t, b, lists...)
			}
		}
	}
}

// P24.1: Fall into what is no bucket, of whoever it is, and of what is no process, into whichever it is: ErrRange, also if both are wrong, and nothing changes.
func TestFallRange(t *testing.T) {
	for many := range mostBuckets + 1 {
		for _, full := range []bool{false, true} {
			lists := make([][]int, many)
			if full && many > 0 {
				lists[many-1] = procs(15, 0, 7)
			}
			b := filled(t, lists...)
			for _, k := range noBuckets(many) {
				for _, p := range []int{0, 1, 7, 8, 14, 15} { // some of which are in a bucket already: ErrRange comes ahead of ErrThere
					fallsNot(t, b, k, p, api.ErrRange)
				}
				for _, p := range noProcs {
					fallsNot(t, b, k, p, api.ErrRange)
				}
			}
			for k := range many {
				for _, p := range noProcs {
					fallsNot(t, b, k, p, api.ErrRange)
				}
			}
			asIs(t, b, lists...)
		}
	}
}

// P24.1: who is in a bucket falls neither into the same one nor into another one, be it first there, last, or amid the others; and nothing changes.
func TestFallThere(t *testing.T) {
	lists := [][]int{procs(0), procs(9, 15, 3), nil, procs(8, 2)}
	b := filled(t, lists...)
	for range 2 {
		for _, l := range lists {
			for _, p := range l {
				for k := range lists {
					fallsNot(t, b, k, p, api.ErrThere)
				}
			}
		}
		asIs(t, b, lists...)
	}
	falls(t, b, 2, 1)
	fallsNot(t, b, 2, 1, api.ErrThere)
	fallsNot(t, b, 0, 1, api.ErrThere)
	asIs(t, b, procs(0), procs(9, 15, 3), procs(1), procs(8, 2))
}

// P24.1: who was flushed may fall again, at once, into the same bucket or into another one, and is behind those that are there.
func TestFallAgain(t *testing.T) {
	b := filled(t, procs(5, 6), procs(7))
	flushes(t, b, 0, 5, 6)
	falls(t, b, 1, 6)
	asIs(t, b, nil, procs(7, 6))
	falls(t, b, 0, 5)
	asIs(t, b, procs(5), procs(7, 6))
	fallsNot(t, b, 0, 6, api.ErrThere)
	flushes(t, b, 1, 7, 6)
	falls(t, b, 0, 7, 6)
	asIs(t, b, procs(5, 7, 6), nil)
	flushes(t, b, 0, 5, 7, 6)
	asIs(t, b, nil, nil)
}

// P24.1: Flush empties that bucket alone; of one that is empty, or was flushed just now, it answers nobody, and no error.
func TestFlush(t *testing.T) {
	lists := [][]int{procs(4, 1), procs(15), nil, procs(0, 9, 2)}
	for k := range lists {
		b := filled(t, lists...)
		left := slices.Clone(lists)
		left[k] = nil
		flushes(t, b, k, lists[k]...)
		asIs(t, b, left...)
		flushes(t, b, k)
		flushes(t, b, k)
		asIs(t, b, left...)
	}
	b := table(t, mostBuckets)
	for k := range mostBuckets {
		for range 3 {
			flushes(t, b, k)
		}
	}
	asIs(t, b, make([][]int, mostBuckets)...)
}

// P24.1: Flush of what is no bucket: ErrRange, nobody beside it, and nobody goes.
func TestFlushRange(t *testing.T) {
	lists := [][]int{procs(0, 3), procs(15), procs(7, 1, 2), procs(9)}
	for many := range mostBuckets + 1 {
		b := filled(t, lists[:many]...)
		for range 2 {
			for _, k := range noBuckets(many) {
				flushesNot(t, b, k, api.ErrRange)
			}
		}
		asIs(t, b, lists[:many]...)
	}
}

// P24.1, P24.2: a table of no buckets: no number is one of a bucket, and nobody is in one, whatever is tried.
func TestNoBuckets(t *testing.T) {
	b := table(t, 0)
	for _, k := range append(noBuckets(0), 0, 1, 2, 3) {
		for p := range last + 1 {
			fallsNot(t, b, k, p, api.ErrRange)
		}
		flushesNot(t, b, k, api.ErrRange)
	}
	asIs(t, b)
}

// P24.2: Where tells of somebody that is in no bucket, is in one, was flushed, and is in another one; 0 and false of bucket 0 are told apart.
func TestWhere(t *testing.T) {
	b := table(t, 3)
	for p := range last + 1 {
		where(t, b, p, 0, false)
		falls(t, b, 2, p)
		where(t, b, p, 2, true)
		flushes(t, b, 1)
		where(t, b, p, 2, true)
		flushes(t, b, 2, p)
		where(t, b, p, 0, false)
		falls(t, b, 0, p)
		where(t, b, p, 0, true)
		flushes(t, b, 0, p)
		where(t, b, p, 0, false)
		falls(t, b, 1, p)
		where(t, b, p, 1, true)
		flushes(t, b, 1, p)
	}
}

// P24.2: Where of numbers that are no processes, though processes are there whose numbers they are when they are cut, and though Fall was tried with them.
func TestWhereNobody(t *testing.T) {
	for many := range mostBuckets + 1 {
		b := table(t, many)
		if many > 0 {
			falls(t, b, many-1, everybody()...)
		}
		for _, p := range noProcs {
			where(t, b, p, 0, false)
			fallsNot(t, b, many-1, p, api.ErrRange)
			where(t, b, p, 0, false)
		}
	}
}

// P24.2, R4: what List answers is the caller's: writing to it, and appending to it, changes nothing, and it stays as it was, whatever is done with the table.
func TestListOwn(t *testing.T) {
	for _, l := range [][]int{procs(3), procs(3, 1), procs(0, 15, 7), everybody()} {
		b := filled(t, nil, l)
		first, second := b.List(1), b.List(1)
		spoil(first)
		asIs(t, b, nil, l)
		third := b.List(1)
		flushes(t, b, 1, l...)
		falls(t, b, 1, 9, 8)
		falls(t, b, 0, 2)
		spoil(b.List(0))
		if !slices.Equal(second, l) || !slices.Equal(third, l) {
			t.Errorf("List: %v, %v; want %v", second, third, l)
		}
		asIs(t, b, procs(2), procs(9, 8))
	}
}

// P24.1, R4: what Flush answers is the caller's: writing to it, and appending to it, changes nothing, and it stays as it was, whatever is done with the table.
func TestFlushOwn(t *testing.T) {
	b := table(t, 2)
	for _, l := range [][]int{procs(3), procs(3, 1), procs(0, 15, 7), everybody()} {
		falls(t, b, 0, l...)
		told := b.List(0)
		who, e := b.Flush(0)
		keep := slices.Clone(who)
		if !slices.Equal(who, l) || e != api.OK {
			t.Fatalf("Flush: %v, %d; want %v, 0", who, e, l)
		}
		falls(t, b, 0, 6, 5)
		falls(t, b, 1, 4)
		if !slices.Equal(who, keep) {
			t.Errorf("%v has become %v", keep, who)
		}
		spoil(who)
		asIs(t, b, procs(6, 5), procs(4))
		if !slices.Equal(told, l) {
			t.Errorf("List ahead of Flush: %v; want %v", told, l)
		}
		flushes(t, b, 0, 6, 5)
		flushes(t, b, 1, 4)
	}
}

// spoil writes to a list, and behind it.
func spoil(l []int) {
	for i := range l {
		l[i] = -9
	}
	l = append(l, -9, -9)
	whole := l[:cap(l)]
	for i := range whole {
		whole[i] = 11
	}
}

// P24.2: what only asks changes nothing, however often, and whatever it is asked for.
func TestAsking(t *testing.T) {
	lists := [][]int{procs(4, 15), nil, procs(0)}
	b := filled(t, lists...)
	for range 300 {
		asIs(t, b, lists...)
	}
	falls(t, b, 0, 9)
	flushes(t, b, 0, 4, 15, 9)
	flushes(t, b, 1)
	flushes(t, b, 2, 0)
}

// P24.3: a nil table, and one that New did not give: ErrNil, ahead of all else that is wrong; nobody, 0, false.
func TestNobodys(t *testing.T) {
	var none Table
	for _, b := range []*Table{nil, {}, new(Table), &none} {
		for range 2 {
			for _, k := range slices.Concat(far, noBuckets(1), procs(0, 1, 2, 3)) {
				for _, p := range slices.Concat(noProcs, procs(0, 1, 15)) {
					fallsNot(t, b, k, p, api.ErrNil)
				}
				flushesNot(t, b, k, api.ErrNil)
				if l := b.List(k); len(l) != 0 {
					t.Fatalf("List(%d): %v; want nobody", k, l)
				}
			}
			for _, p := range slices.Concat(noProcs, everybody()) {
				where(t, b, p, 0, false)
			}
			if got := b.Many(); got != 0 {
				t.Fatalf("Many: %d; want 0", got)
			}
		}
	}
	if none != (Table{}) {
		t.Errorf("a zero table has become %v", none)
	}
}

// R3: two tables do not meet: what is in one is in no other one, be they of one size or not.
func TestTwoTables(t *testing.T) {
	a, b, c := table(t, 2), table(t, 2), table(t, 4)
	falls(t, a, 0, everybody()...)
	asIs(t, b, nil, nil)
	asIs(t, c, nil, nil, nil, nil)
	falls(t, b, 1, 3, 2)
	falls(t, c, 3, 3)
	flushes(t, b, 0)
	flushes(t, c, 0)
	asIs(t, a, everybody(), nil)
	flushes(t, a, 0, everybody()...)
	asIs(t, a, nil, nil)
	asIs(t, b, nil, procs(3, 2))
	asIs(t, c, nil, nil, nil, procs(3))
	falls(t, a, 1, 3)
	flushes(t, b, 1, 3, 2)
	asIs(t, a, nil, procs(3))
	asIs(t, c, nil, nil, nil, procs(3))
}

// deed is something that was done to a table: p fell into bucket k, or, where p is below 0, k was flushed.
type deed struct{ k, p int }

// watch is a table beside all that was done to it, from its beginning on.
type watch struct {
	b    *Table
	many int
	done []deed
}

// begin is a table of so many buckets to which nothing was done.
func begin(t *testing.T, many int) *watch {
	t.Helper()
	return &watch{b: table(t, many), many: many}
}

// since are all that fell into a bucket since it was flushed last, in order.
func (w *watch) since(k int) []int {
	var l []int
	for _, d := range w.done {
		switch {
		case d.k == k && d.p < 0:
			l = nil
		case d.k == k:
			l = append(l, d.p)
		}
	}
	return l
}

// lists are those since of all buckets.
func (w *watch) lists() [][]int {
	l := make([][]int, w.many)
	for k := range l {
		l[k] = w.since(k)
	}
	return l
}

// fall calls Fall, and holds its answer against what was done.
func (w *watch) fall(t *testing.T, k, p int) {
	t.Helper()
	switch {
	case k < 0 || k >= w.many || p < 0 || p > last:
		fallsNot(t, w.b, k, p, api.ErrRange)
	case slices.Contains(slices.Concat(w.lists()...), p):
		fallsNot(t, w.b, k, p, api.ErrThere)
	default:
		falls(t, w.b, k, p)
		w.done = append(w.done, deed{k, p})
	}
}

// flush calls Flush, and holds its answer against what was done.
func (w *watch) flush(t *testing.T, k int) {
	t.Helper()
	if k < 0 || k >= w.many {
		flushesNot(t, w.b, k, api.ErrRange)
		return
	}
	flushes(t, w.b, k, w.since(k)...)
	w.done = append(w.done, deed{k, -1})
}

// holds fails, unless the table is as what was done tells.
func (w *watch) holds(t *testing.T) {
	t.Helper()
	has(t, w.b, w.lists()...)
}

// P24.4: all runs of five calls of two processes at two buckets, wrong numbers among them.
func TestShortRuns(t *testing.T) {
	calls := []deed{{0, 0}, {0, 15}, {1, 0}, {1, 15}, {0, -1}, {1, -1}, {2, 0}, {0, 16}, {2, -1}}
	many := 1
	for range 5 {
		many *= len(calls)
	}
	for n := range many {
		w := begin(t, 2)
		for range 5 {
			d := calls[n%len(calls)]
			n /= len(calls)
			if d.p < 0 {
				w.flush(t, d.k)
			} else {
				w.fall(t, d.k, d.p)
			}
		}
		w.holds(t)
	}
}

// P24.4: long runs by chance of all calls, of few and of many processes, at tables of all sizes.
func TestRuns(t *testing.T) {
	r := rand.New(rand.NewSource(244))
	for many := range mostBuckets + 1 {
		for _, some := range []int{1, 2, 5, 16} {
			for range 10 {
				w, who := begin(t, many), r.Perm(last + 1)[:some]
				for range 200 {
					step(t, r, w, who)
					w.holds(t)
				}
				asIs(t, w.b, w.lists()...)
			}
		}
	}
}

// step makes one call by chance: of these processes mostly, and of wrong numbers now and then.
func step(t *testing.T, r *rand.Rand, w *watch, who []int) {
	t.Helper()
	k, p := r.Intn(w.many+1), who[r.Intn(len(who))]
	switch r.Intn(12) {
	case 0:
		w.fall(t, k, noProcs[r.Intn(len(noProcs))])
	case 1:
		wrong := noBuckets(w.many)
		w.fall(t, wrong[r.Intn(len(wrong))], p)
	case 2:
		wrong := noBuckets(w.many)
		w.flush(t, wrong[r.Intn(len(wrong))])
	case 3, 4:
		w.flush(t, k)
	default:
		w.fall(t, k, p)
	}
}

// P24.4: in a run that flushes all buckets at its end each one that fell is flushed just once, from the bucket into which it fell; nobody else is.
func TestOnce(t *testing.T) {
	r := rand.New(rand.NewSource(2440))
	for many := 1; many <= mostBuckets; many++ {
		for range 100 {
			b := table(t, many)
			fell, out := make([][]int, many), make([][]int, many) // of each bucket, all that ever fell, and all that ever were flushed
			flush := func(k int) {
				who, e := b.Flush(k)
				if e != api.OK {
					t.Fatalf("Flush(%d): %d", k, e)
				}
				out[k] = append(out[k], who...)
			}
			for range 150 {
				k, p := r.Intn(many), r.Intn(last+1)
				if r.Intn(8) == 0 {
					flush(k)
				} else if b.Fall(k, p) == api.OK {
					fell[k] = append(fell[k], p)
				}
			}
			for k := range many {
				flush(k)
				flushes(t, b, k)
				if !slices.Equal(out[k], fell[k]) {
					t.Fatalf("bucket %d of %d: %v fell, %v were flushed", k, many, fell[k], out[k])
				}
			}
			if len(slices.Concat(fell...)) < last+1 {
				t.Fatalf("%d buckets: only %v fell", many, fell)
			}
			asIs(t, b, make([][]int, many)...)
		}
	}
}

// P24.4: a table goes on for as long as it is used: no room is lost, whoever falls and is flushed, thousands of times.
func TestLong(t *testing.T) {
	b := table(t, mostBuckets)
	for i := range 5000 {
		k := i % mostBuckets
		l := everybody()[:i%(last+2)]
		falls(t, b, k, l...)
		fallsNot(t, b, k, last+1, api.ErrRange)
		flushes(t, b, k, l...)
	}
	asIs(t, b, make([][]int, mostBuckets)...)
}
