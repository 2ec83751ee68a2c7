package clock

import (
	"math"
	"math/big"
	"math/rand"
	"slices"
	"testing"

	"becket/api"
)

// last is the last instant, as the chapter's words tell it.
const last = 1099511627776

// instants are the first one, the last one, some that are near them, near the ends of smaller types, and in between.
var instants = []int{0, 1, 2, 5, 8, 255, 256, 65535, 65536, 1<<31 - 1, 1 << 31, 1<<32 - 1, 1 << 32, 1<<32 + 5, 1<<39 - 1, 1 << 39, 1<<39 + 1, last - 8, last - 5, last - 2, last - 1, last}

// noInstants are numbers that are no instants: beside the first one and the last one, such as have an instant's bits within them, and the ends of the type.
var noInstants = []int{math.MinInt, math.MinInt + 1, math.MinInt + 5, -last - 1, -last, -last + 1, -1 << 32, -1 << 31, -65536, -256, -5, -2, -1, last + 1, last + 2, last + 5, last + 1<<32, 2*last - 1, 2 * last, 2*last + 5, 1 << 62, math.MaxInt - last, math.MaxInt - 5, math.MaxInt - 1, math.MaxInt}

// ticks are spans of time that may be ticks: those that are instants, and longer ones.
func ticks() []int {
	l := slices.Clone(instants)
	for _, n := range noInstants {
		if n >= 0 {
			l = append(l, n)
		}
	}
	return l
}

// spans are spans of time of all kinds, those below 0 among them.
func spans() []int { return slices.Concat(instants, noInstants) }

// whole is what the chapter asks of a span that is gone on by, reckoned with numbers that have no ends.
func whole(now, d int) int {
	sum := new(big.Int).Add(big.NewInt(int64(now)), big.NewInt(int64(d)))
	switch {
	case d < 0:
		return now
	case sum.Cmp(big.NewInt(last)) > 0:
		return last
	}
	return int(sum.Int64())
}

// ticked fails, unless Tick answers so.
func ticked(t *testing.T, now, n, want int, err api.Errno) {
	t.Helper()
	if got, e := Tick(now, n); got != want || e != err {
		t.Errorf("Tick(%d, %d): %d, %d; want %d, %d", now, n, got, e, want, err)
	}
}

// after fails, unless After answers so.
func after(t *testing.T, now, d, want int, err api.Errno) {
	t.Helper()
	if got, e := After(now, d); got != want || e != err {
		t.Errorf("After(%d, %d): %d, %d; want %d, %d", now, d, got, e, want, err)
	}
}

// stands fails, unless Due and Left answer so.
func stands(t *testing.T, now, at int, due bool, left int) {
	t.Helper()
	if got := Due(now, at); got != due {
		t.Errorf("Due(%d, %d): %v; want %v", now, at, got, due)
	}
	if got := Left(now, at); got != left {
		t.Errorf("Left(%d, %d): %d; want %d", now, at, got, left)
	}
}

// tick is the instant to which one comes by a tick that may be.
func tick(t *testing.T, now, n int) int {
	t.Helper()
	got, e := Tick(now, n)
	if e != api.OK {
		t.Fatalf("Tick(%d, %d): %d", now, n, e)
	}
	return got
}

// The chapter's examples.
func TestExamples(t *testing.T) {
	ticked(t, 5, 3, 8, api.OK)
	after(t, 5, -3, 5, api.OK)
}

// P5.1: Fine.
func TestFine(t *testing.T) {
	for _, at := range instants {
		if !Fine(at) {
			t.Errorf("Fine(%d): false", at)
		}
	}
	for _, at := range noInstants {
		if Fine(at) {
			t.Errorf("Fine(%d): true", at)
		}
	}
}

// P5.1: what lies just within the limits, and just outside of them.
func TestFineEdges(t *testing.T) {
	for k := -40; k <= 40; k++ {
		if got, want := Fine(k), k >= 0; got != want {
			t.Errorf("Fine(%d): %v", k, got)
		}
		if got, want := Fine(last+k), k <= 0; got != want {
			t.Errorf("Fine(%d): %v", last+k, got)
		}
	}
}

// P5.1: Tick: by nothing, within the limits, just to the end, one further, and far beyond it.
func TestTick(t *testing.T) {
	for _, c := range []struct{ now, n, want int }{
		{0, 0, 0}, {0, 1, 1}, {1, 1, 2}, {5, 0, 5}, {5, 1, 6}, {5, 3, 8},
		{last, 0, last}, {last - 1, 0, last - 1},
		{1<<31 - 1, 1, 1 << 31}, {1<<32 - 1, 1, 1 << 32}, {1 << 39, 1<<39 - 1, last - 1},
		{0, last - 1, last - 1}, {1, last - 2, last - 1}, {last - 5, 4, last - 1},
		{0, last, last}, {1, last - 1, last}, {5, last - 5, last}, {1 << 39, 1 << 39, last}, {last - 1, 1, last},
		{0, last + 1, last}, {1, last, last}, {5, last - 4, last}, {1 << 39, 1<<39 + 1, last}, {last - 1, 2, last}, {last, 1, last},
		{0, 2 * last, last}, {5, 1 << 62, last}, {last, last, last}, {last, 1 << 62, last},
		{0, math.MaxInt, last}, {1, math.MaxInt, last}, {5, math.MaxInt - 5, last}, {5, math.MaxInt - 4, last}, {1 << 39, math.MaxInt, last}, {last - 1, math.MaxInt, last},
		{last, math.MaxInt - last, last}, {last, math.MaxInt - last + 1, last}, {last, math.MaxInt, last},
	} {
		ticked(t, c.now, c.n, c.want, api.OK)
	}
}

// P5.1: a tick below 0, of each instant.
func TestTickArg(t *testing.T) {
	for _, now := range instants {
		for _, n := range []int{math.MinInt, math.MinInt + 1, -last - 1, -last, -1 << 32, -3, -1} {
			ticked(t, now, n, 0, api.ErrArg)
		}
	}
}

// P5.1: a tick, and an After, of what is no instant: that comes first, whatever else is wrong.
func TestGoOnRange(t *testing.T) {
	for _, now := range noInstants {
		for _, n := range spans() {
			ticked(t, now, n, 0, api.ErrRange)
			after(t, now, n, 0, api.ErrRange)
		}
	}
}

// P5.1: After: of a span below 0, of none, within the limits, just to the end, one further, and far beyond it.
func TestAfter(t *testing.T) {
	for _, c := range []struct{ now, d, want int }{
		{0, -1, 0}, {0, math.MinInt, 0}, {5, -1, 5}, {5, -3, 5}, {5, -5, 5}, {5, -6, 5}, {5, -last, 5}, {5, math.MinInt, 5}, {5, math.MinInt + 1, 5},
		{last, -1, last}, {last, -last, last}, {last, -last - 1, last}, {last, math.MinInt, last}, {last - 1, -1, last - 1},
		{0, 0, 0}, {5, 0, 5}, {last, 0, last},
		{0, 1, 1}, {5, 3, 8}, {1<<31 - 1, 1, 1 << 31}, {1<<32 - 1, 1, 1 << 32},
		{0, last - 1, last - 1}, {last - 5, 4, last - 1},
		{0, last, last}, {5, last - 5, last}, {1 << 39, 1 << 39, last}, {last - 1, 1, last},
		{0, last + 1, last}, {5, last - 4, last}, {1 << 39, 1<<39 + 1, last}, {last - 1, 2, last}, {last, 1, last},
		{0, 1 << 62, last}, {last, last, last}, {last, math.MaxInt - last, last}, {last, math.MaxInt - last + 1, last},
		{0, math.MaxInt, last}, {5, math.MaxInt, last}, {last - 1, math.MaxInt, last}, {last, math.MaxInt, last},
	} {
		after(t, c.now, c.d, c.want, api.OK)
	}
}

// P5.1: Tick and After of all pairs, held against whole sums; where both may be, they are the same.
func TestGoOnPairs(t *testing.T) {
	for _, now := range instants {
		for _, d := range spans() {
			after(t, now, d, whole(now, d), api.OK)
			if d >= 0 {
				ticked(t, now, d, whole(now, d), api.OK)
			}
		}
	}
}

// P5.1: Tick and After of numbers by chance, of all sizes.
func TestGoOnChance(t *testing.T) {
	r := rand.New(rand.NewSource(5))
	for range 20000 {
		now := int(r.Int63n(last + 1))
		d := int(r.Uint64()) >> r.Intn(64)
		after(t, now, d, whole(now, d), api.OK)
		if d < 0 {
			ticked(t, now, d, 0, api.ErrArg)
		} else {
			ticked(t, now, d, whole(now, d), api.OK)
		}
	}
}

// P5.2: Due and Left: an instant that is due just now, one ahead of now, one behind it; both ends.
func TestDueLeft(t *testing.T) {
	for _, c := range []struct {
		now, at int
		due     bool
		left    int
	}{
		{5, 5, true, 0}, {5, 4, true, 0}, {5, 0, true, 0}, {5, 6, false, 1}, {5, 9, false, 4},
		{0, 0, true, 0}, {0, 1, false, 1}, {1, 0, true, 0},
		{0, last, false, last}, {1, last, false, last - 1}, {last - 1, last, false, 1}, {last, last, true, 0}, {last, last - 1, true, 0}, {last, 0, true, 0},
		{1<<32 + 5, 5, true, 0}, {5, 1<<32 + 5, false, 1 << 32}, {1<<31 - 1, 1 << 31, false, 1}, {1 << 31, 1<<31 - 1, true, 0},
	} {
		stands(t, c.now, c.at, c.due, c.left)
	}
}

// P5.2: all pairs of instants: what is due has nothing left, and what is not due has as much left as it lies behind.
func TestDueLeftPairs(t *testing.T) {
	for i, now := range instants {
		for k, at := range instants { // they rise, so that their places tell which one is behind
			if k <= i {
				stands(t, now, at, true, 0)
			} else {
				stands(t, now, at, false, at-now)
			}
		}
	}
}

// P5.2: nothing is due, and nothing left, where one of both is no instant, or neither is.
func TestDueLeftWrong(t *testing.T) {
	for _, no := range noInstants {
		for _, at := range instants {
			stands(t, no, at, false, 0)
			stands(t, at, no, false, 0)
		}
		for _, other := range noInstants {
			stands(t, no, other, false, 0)
		}
	}
}

// P5.3: two ticks are one tick of both together, as long as the end is not reached; whoever is at the end stays there.
func TestTicksAreOne(t *testing.T) {
	for _, now := range instants {
		for _, a := range ticks() {
			once := tick(t, now, a)
			for _, b := range ticks() {
				twice := tick(t, once, b)
				if whole(once, b) == last {
					if twice != last {
						t.Errorf("%d, ticks of %d and %d: %d; want the end", now, a, b, twice)
					}
				} else if want := tick(t, now, a+b); twice != want {
					t.Errorf("%d, ticks of %d and %d: %d; want %d", now, a, b, twice, want)
				}
			}
		}
	}
}

// P5.3: many ticks are one tick of all together, up to the end itself.
func TestManyTicks(t *testing.T) {
	r := rand.New(rand.NewSource(53))
	for range 200 {
		start := int(r.Int63n(last + 1))
		now, all := start, 0
		for now < last {
			n := int(r.Int63n(last/16) >> r.Intn(8))
			if n > last-now {
				n = last - now
			}
			now, all = tick(t, now, n), all+n
			if want := tick(t, start, all); now != want || now != start+all {
				t.Fatalf("%d, ticks of %d in all: %d; want %d", start, all, now, want)
			}
		}
	}
}

// P5.3: what is due stays due, however far the clock goes on.
func TestStaysDue(t *testing.T) {
	for _, now := range instants {
		for _, at := range instants {
			if !Due(now, at) {
				continue
			}
			for _, n := range ticks() {
				stands(t, tick(t, now, n), at, true, 0)
			}
		}
	}
}

// P5.3: what is left to an instant goes with the ticks, till nothing is left, and it is due.
func TestLeftGoes(t *testing.T) {
	for _, now := range instants {
		for _, at := range instants {
			left := Left(now, at)
			for _, n := range ticks() {
				then := tick(t, now, n)
				stands(t, then, at, n >= left, max(left-n, 0))
			}
		}
	}
}

// P5.3: of a span of time there is left what the ticks have not taken of it.
func TestSpanGoes(t *testing.T) {
	for _, now := range instants {
		for _, d := range instants {
			end, e := After(now, d)
			if e != api.OK {
				t.Fatalf("After(%d, %d): %d", now, d, e)
			}
			if d > last-now { // the end cuts the span
				stands(t, now, end, now == last, last-now)
				continue
			}
			stands(t, now, end, d == 0, d)
			for _, n := range instants {
				stands(t, tick(t, now, n), end, n >= d, max(d-n, 0))
			}
		}
	}
}

// P5.3: a span that is gone through tick by tick: each takes one of what is left.
func TestSpanTickByTick(t *testing.T) {
	for _, start := range []int{0, 5, 1<<32 - 4, last - 9} {
		end, _ := After(start, 9)
		now := start
		for left := 9; left > 0; left-- {
			stands(t, now, end, false, left)
			now = tick(t, now, 1)
		}
		stands(t, now, end, true, 0)
		stands(t, tick(t, now, 1), end, true, 0)
	}
}

// Limits hold what is of any ordered type: what is below them, at them, between them, and above.
func TestWithin(t *testing.T) {
	for _, c := range []struct{ x, want int }{{-2, -1}, {-1, -1}, {0, 0}, {3, 3}, {4, 3}, {math.MinInt, -1}, {math.MaxInt, 3}} {
		if got := within(c.x, -1, 3); got != c.want {
			t.Errorf("within(%d, -1, 3): %d; want %d", c.x, got, c.want)
		}
	}
	if a, b, c := within("a", "b", "d"), within("c", "b", "d"), within("e", "b", "d"); a != "b" || b != "c" || c != "d" {
		t.Errorf("texts: %s, %s, %s", a, b, c)
	}
	if a, b, c := within(0.5, 1, 2), within(1.5, 1, 2), within(2.5, 1, 2); a != 1 || b != 1.5 || c != 2 {
		t.Errorf("floats: %v, %v, %v", a, b, c)
	}
}
