package phase

import (
	"math"
	"math/rand"
	"slices"
	"testing"

	"becket/api"
)

// last is the last limit, as the chapter's words tell it.
const last = 65535

// limits are the first one, the last one, some that are near them, near the ends of smaller types, and in between.
var limits = []int{1, 2, 3, 5, 8, 63, 64, 127, 128, 129, 254, 255, 256, 257, 1000, 4095, 4096, 32766, 32767, 32768, 32769, 65533, 65534, 65535}

// noLimits are numbers that are no limits: beside the first one and the last one, such as become a limit when they are cut to fewer bits, or lose their sign, and the ends of int.
var noLimits = []int{math.MinInt, math.MinInt + 1, math.MinInt + 5, math.MinInt + last, -1 << 62, -1<<32 - 1, -1 << 32, -1<<32 + 5, -1 << 31, -131072, -65541, -65537, -65536, -65535, -65534, -65531, -32768, -257, -256, -255, -128, -5, -2, -1, 0, 65536, 65537, 65538, 65541, 98304, 131070, 131071, 131072, 131077, 1<<31 - 1, 1 << 31, 1<<31 + 5, 1<<32 - 1, 1 << 32, 1<<32 + 5, 1<<32 + last, 1 << 40, 1 << 62, math.MaxInt - last - 1, math.MaxInt - last, math.MaxInt - 5, math.MaxInt - 1, math.MaxInt}

// phases are some of a limit's: the first ones, the last ones, and such as lie in between.
func phases(limit int) []int {
	var l []int
	for _, n := range []int{0, 1, 2, 3, limit / 3, limit / 2, limit - 3, limit - 2, limit - 1, limit} {
		if n >= 0 && n <= limit {
			l = append(l, n)
		}
	}
	slices.Sort(l)
	return slices.Compact(l)
}

// noPhases are numbers that are no phases of a limit: beside the first one and the last one, such as become a phase of it when they are cut to fewer bits, and all that are far from it.
func noPhases(limit int) []int {
	l := []int{-limit - 1, -limit, limit + 1, limit + 2, 2*limit + 1, limit + 256, limit + 65536, 1<<32 + limit, math.MinInt + limit}
	for _, n := range noLimits {
		if n < 0 || n > limit {
			l = append(l, n)
		}
	}
	return l
}

// numbers are the limits, what is none, and what lies around the first one and around the last one.
func numbers() []int {
	var l []int
	for k := -8; k <= 8; k++ {
		l = append(l, k, last+k)
	}
	return slices.Concat(l, limits, noLimits)
}

// may is a second reading of the words limit and phase.
func may(n, limit int) bool {
	if limit < 1 || limit > last {
		return false
	}
	return !(n < 0) && !(n > limit)
}

// steps is a second reading of what Goes answers: what is left is told, not counted.
func steps(n, limit, many int) (int, int) {
	switch {
	case !may(n, limit):
		return 0, 0
	case many < 1:
		return n, 0
	case many >= limit-n:
		return limit, limit - n
	}
	return n + many, many
}

// nexts is what so many calls of Next tell, one behind the other.
func nexts(n, limit, many int) (int, int) {
	gone := 0
	for gone < many {
		to, e := Next(n, limit)
		if e != api.OK {
			break
		}
		n = to
		gone++
	}
	return n, gone
}

// fine fails, unless Fine answers so.
func fine(t *testing.T, n, limit int, want bool) {
	t.Helper()
	if got := Fine(n, limit); got != want {
		t.Errorf("Fine(%d, %d): %v; want %v", n, limit, got, want)
	}
}

// next fails, unless Next answers so.
func next(t *testing.T, n, limit, want int, err api.Errno) {
	t.Helper()
	if got, e := Next(n, limit); got != want || e != err {
		t.Errorf("Next(%d, %d): %d, %d; want %d, %d", n, limit, got, e, want, err)
	}
}

// left fails, unless Left answers so.
func left(t *testing.T, n, limit, want int) {
	t.Helper()
	if got := Left(n, limit); got != want {
		t.Errorf("Left(%d, %d): %d; want %d", n, limit, got, want)
	}
}

// goes fails, unless Goes answers so.
func goes(t *testing.T, n, limit, many, want, gone int) {
	t.Helper()
	if got, k := Goes(n, limit, many); got != want || k != gone {
		t.Errorf("Goes(%d, %d, %d): %d, %d; want %d, %d", n, limit, many, got, k, want, gone)
	}
}

// wrong fails, unless every call tells that these may not be, however many phases are asked for.
func wrong(t *testing.T, n, limit int) {
	t.Helper()
	fine(t, n, limit, false)
	next(t, n, limit, 0, api.ErrRange)
	left(t, n, limit, 0)
	for _, many := range []int{math.MinInt, -65536, -1, 0, 1, 2, 9, last, 65536, 1 << 32, math.MaxInt - 1, math.MaxInt} {
		goes(t, n, limit, many, 0, 0)
	}
}

// The chapter's example.
func TestExamples(t *testing.T) {
	goes(t, 3, 5, 9, 5, 2)
}

// P20.1: Fine: the edges that the chapter names, of limits and of phases.
func TestFine(t *testing.T) {
	for _, c := range []struct {
		n, limit int
		want     bool
	}{
		{-2, -1, false}, {-1, -1, false}, {0, -1, false}, {1, -1, false},
		{-1, 0, false}, {0, 0, false}, {1, 0, false},
		{-1, 1, false}, {0, 1, true}, {1, 1, true}, {2, 1, false},
		{-1, 2, false}, {0, 2, true}, {1, 2, true}, {2, 2, true}, {3, 2, false},
		{-1, last, false}, {0, last, true}, {1, last, true}, {65534, last, true}, {65535, last, true}, {65536, last, false},
		{-1, 65536, false}, {0, 65536, false}, {1, 65536, false}, {65535, 65536, false}, {65536, 65536, false}, {65537, 65536, false},
	} {
		fine(t, c.n, c.limit, c.want)
	}
}

// P20.1: Next: from the first phase, from in between, to the limit, and at it.
func TestNext(t *testing.T) {
	for _, c := range []struct {
		n, limit, want int
		err            api.Errno
	}{
		{0, 1, 1, api.OK}, {1, 1, 0, api.ErrLimit},
		{0, 2, 1, api.OK}, {1, 2, 2, api.OK}, {2, 2, 0, api.ErrLimit},
		{0, 5, 1, api.OK}, {3, 5, 4, api.OK}, {4, 5, 5, api.OK}, {5, 5, 0, api.ErrLimit},
		{254, 255, 255, api.OK}, {255, 255, 0, api.ErrLimit}, {255, 256, 256, api.OK}, {256, 256, 0, api.ErrLimit},
		{32767, 32768, 32768, api.OK}, {32768, 32768, 0, api.ErrLimit},
		{0, last, 1, api.OK}, {255, last, 256, api.OK}, {32767, last, 32768, api.OK}, {65533, last, 65534, api.OK}, {65534, last, 65535, api.OK}, {65535, last, 0, api.ErrLimit},
	} {
		next(t, c.n, c.limit, c.want, c.err)
	}
}

// P20.1: Next: what may not be comes first, also where the phase is at what is no limit, or beyond what is one.
func TestNextErrors(t *testing.T) {
	for _, no := range noLimits {
		next(t, no, no, 0, api.ErrRange)
		for _, limit := range limits {
			next(t, limit, no, 0, api.ErrRange)
		}
	}
	for _, limit := range limits {
		next(t, limit-1, limit, limit, api.OK)
		next(t, limit, limit, 0, api.ErrLimit)
		next(t, limit+1, limit, 0, api.ErrRange)
		next(t, -limit, limit, 0, api.ErrRange)
		next(t, -1, limit, 0, api.ErrRange)
	}
}

// P20.1: Left: all, some, one, and none.
func TestLeft(t *testing.T) {
	for _, c := range []struct{ n, limit, want int }{
		{0, 1, 1}, {1, 1, 0},
		{0, 2, 2}, {1, 2, 1}, {2, 2, 0},
		{0, 5, 5}, {3, 5, 2}, {4, 5, 1}, {5, 5, 0},
		{0, 256, 256}, {1, 256, 255}, {256, 256, 0},
		{0, last, 65535}, {1, last, 65534}, {32767, last, 32768}, {65534, last, 1}, {65535, last, 0},
	} {
		left(t, c.n, c.limit, c.want)
	}
}

// P20.1: each phase of each of the lower limits, and of the last one.
func TestAllPhases(t *testing.T) {
	for limit := range 300 {
		for n := -40; n <= limit+40; n++ {
			compare(t, n, limit)
		}
	}
	for n := -40; n <= last+40; n++ {
		compare(t, n, last)
		compare(t, n, last-1)
	}
}

// P20.1: phases at each of the limits, from far below the first one to far above the last one.
func TestAllLimits(t *testing.T) {
	for limit := -300; limit <= last+300; limit++ {
		for _, n := range []int{-1, 0, 1, limit - 1, limit, limit + 1} {
			compare(t, n, limit)
		}
	}
}

// P20.1: all pairs of numbers around the limits, and of the ends of int.
func TestPairs(t *testing.T) {
	for _, limit := range numbers() {
		for _, n := range numbers() {
			compare(t, n, limit)
		}
	}
}

// compare fails, unless Fine, Next and Left answer as a second reading does.
func compare(t *testing.T, n, limit int) {
	t.Helper()
	fine(t, n, limit, may(n, limit))
	switch {
	case !may(n, limit):
		next(t, n, limit, 0, api.ErrRange)
		left(t, n, limit, 0)
	case n == limit:
		next(t, n, limit, 0, api.ErrLimit)
		left(t, n, limit, 0)
	default:
		next(t, n, limit, n+1, api.OK)
		left(t, n, limit, limit-n)
	}
}

// P20.1, P20.2: numbers that may not be: as limits, as phases of what is a limit, and as both.
func TestWrong(t *testing.T) {
	for _, no := range noLimits {
		for _, n := range slices.Concat(limits, noLimits, []int{no - 1, no + 1}) {
			wrong(t, n, no)
		}
	}
	for _, limit := range limits {
		for _, n := range noPhases(limit) {
			wrong(t, n, limit)
		}
	}
}

// P20.2: Goes: by less than nothing, by none, by one, by one fewer than there are left, by as many, and by more.
func TestGoes(t *testing.T) {
	for _, c := range []struct{ n, limit, many, want, gone int }{
		{0, 1, -1, 0, 0}, {0, 1, 0, 0, 0}, {0, 1, 1, 1, 1}, {0, 1, 2, 1, 1},
		{1, 1, -1, 1, 0}, {1, 1, 0, 1, 0}, {1, 1, 1, 1, 0}, {1, 1, 2, 1, 0},
		{3, 5, -1, 3, 0}, {3, 5, 0, 3, 0}, {3, 5, 1, 4, 1}, {3, 5, 2, 5, 2}, {3, 5, 3, 5, 2}, {3, 5, 9, 5, 2},
		{0, 5, 4, 4, 4}, {0, 5, 5, 5, 5}, {0, 5, 6, 5, 5}, {5, 5, 9, 5, 0}, {4, 5, 9, 5, 1},
		{0, 256, 255, 255, 255}, {0, 256, 256, 256, 256}, {0, 256, 257, 256, 256}, {1, 256, 256, 256, 255},
		{0, last, -1, 0, 0}, {0, last, 0, 0, 0}, {0, last, 1, 1, 1}, {0, last, 65534, 65534, 65534}, {0, last, 65535, 65535, 65535}, {0, last, 65536, 65535, 65535},
		{9, last, 65525, 65534, 65525}, {9, last, 65526, 65535, 65526}, {9, last, 65527, 65535, 65526},
		{65534, last, 1, 65535, 1}, {65534, last, 2, 65535, 1}, {65535, last, 0, 65535, 0}, {65535, last, 1, 65535, 0},
		{3, 5, math.MaxInt, 5, 2}, {0, last, math.MaxInt, 65535, 65535}, {65535, last, math.MaxInt, 65535, 0},
		{3, 5, math.MinInt, 3, 0}, {65535, last, math.MinInt, 65535, 0}, {3, 5, 1 << 32, 5, 2}, {3, 5, 1<<32 + 1, 5, 2}, {3, 5, -1 << 32, 3, 0}, {3, 5, -1<<32 + 1, 3, 0},
	} {
		goes(t, c.n, c.limit, c.many, c.want, c.gone)
	}
}

// P20.2: each phase of each of the lower limits, by each number from below none to more than there are left.
func TestGoesAll(t *testing.T) {
	for limit := -3; limit <= 40; limit++ {
		for n := -3; n <= limit+3; n++ {
			for many := -3; many <= limit+5; many++ {
				want, gone := steps(n, limit, many)
				goes(t, n, limit, many, want, gone)
			}
		}
	}
}

// P20.2: phases of limits of all sizes, by the numbers around what is left, and by such as are far below or far above.
func TestGoesLimits(t *testing.T) {
	for _, limit := range limits {
		for _, n := range phases(limit) {
			rest := limit - n
			for _, many := range []int{math.MinInt, math.MinInt + 1, -1<<32 + 1, -65536, -rest - 1, -rest, -2, -1, 0, 1, 2, rest - 1, rest, rest + 1, rest + 65536, 65536, 1 << 32, 1<<32 + 1, 1 << 62, math.MaxInt - 1, math.MaxInt} {
				want, gone := steps(n, limit, many)
				goes(t, n, limit, many, want, gone)
			}
		}
	}
}

// P20.2: none is gone by any number below 1, and the phase stays.
func TestGoesNone(t *testing.T) {
	for _, limit := range limits {
		for _, n := range phases(limit) {
			for _, many := range numbers() {
				if many < 1 {
					goes(t, n, limit, many, n, 0)
				}
			}
		}
	}
}

// P20.2: Goes tells just what as many calls of Next tell, one behind the other.
func TestGoesAsNext(t *testing.T) {
	for _, limit := range limits {
		for _, n := range phases(limit) {
			for _, many := range []int{-1, 0, 1, 2, 7, limit - n - 1, limit - n, limit - n + 1, math.MaxInt} {
				want, gone := nexts(n, limit, many)
				goes(t, n, limit, many, want, gone)
			}
		}
	}
}

// P20.2: numbers by chance, of all sizes.
func TestGoesChance(t *testing.T) {
	r := rand.New(rand.NewSource(20))
	for range 3000 {
		limit := 1 + r.Intn(last)>>r.Intn(16)
		n := r.Intn(limit + 1)
		many := int(r.Uint64()) >> r.Intn(64)
		compare(t, n, limit)
		want, gone := steps(n, limit, many)
		goes(t, n, limit, many, want, gone)
	}
}

// P20.2: by one number and then by another is by both together.
func TestGoesTwice(t *testing.T) {
	for limit := 1; limit <= 12; limit++ {
		for n := range limit + 1 {
			for a := range limit + 3 {
				for b := range limit + 3 {
					mid, first := Goes(n, limit, a)
					end, second := Goes(mid, limit, b)
					goes(t, n, limit, a+b, end, first+second)
				}
			}
		}
	}
}

// run takes a counter from its beginning to its limit, and fails unless each of its phases comes once, in order.
func run(t *testing.T, limit int) {
	t.Helper()
	n := 0
	for gone := range limit {
		if rest := Left(n, limit); n != gone || rest != limit-gone {
			t.Fatalf("limit %d: behind %d steps at %d, with %d left", limit, gone, n, rest)
		}
		to, e := Next(n, limit)
		if e != api.OK || to != n+1 || !Fine(to, limit) {
			t.Fatalf("Next(%d, %d): %d, %d", n, limit, to, e)
		}
		if before, after := Left(n, limit), Left(to, limit); after != before-1 {
			t.Fatalf("limit %d: %d are left at %d, and %d at %d", limit, before, n, after, to)
		}
		n = to
	}
	stops(t, n, limit)
}

// stops fails, unless a counter is at its limit, and stays there.
func stops(t *testing.T, n, limit int) {
	t.Helper()
	if n != limit {
		t.Errorf("limit %d: it has come to %d", limit, n)
	}
	for range 3 { // who has been refused once is refused again
		next(t, n, limit, 0, api.ErrLimit)
		left(t, n, limit, 0)
		goes(t, n, limit, 1, limit, 0)
		goes(t, n, limit, math.MaxInt, limit, 0)
	}
	fine(t, n, limit, true)
	fine(t, n+1, limit, false)
}

// P20.3: whole runs, also of limit 1 and of the last limit.
func TestRuns(t *testing.T) {
	for limit := 1; limit <= 200; limit++ {
		run(t, limit)
	}
	for _, limit := range limits {
		run(t, limit)
	}
}

// P20.3: whole runs that leap: what is gone in all and what is left are the limit together, all the way.
func TestLeaps(t *testing.T) {
	r := rand.New(rand.NewSource(203))
	for _, limit := range limits {
		for range 20 {
			n, all := 0, 0
			for Left(n, limit) > 0 {
				to, gone := Goes(n, limit, 1+r.Intn(limit))
				if gone < 1 || to != n+gone {
					t.Fatalf("limit %d: from %d to %d by %d", limit, n, to, gone)
				}
				n, all = to, all+gone
				if all+Left(n, limit) != limit {
					t.Fatalf("limit %d: %d are gone, and %d left", limit, all, Left(n, limit))
				}
			}
			stops(t, n, limit)
		}
	}
}

// P20.3: from wherever a counter stands, there are as many next phases as are left, and no more.
func TestAsManyAsLeft(t *testing.T) {
	for _, limit := range limits {
		for _, n := range phases(limit) {
			rest := Left(n, limit)
			end, gone := nexts(n, limit, rest+1)
			if end != limit || gone != rest {
				t.Errorf("limit %d, from %d: to %d by %d; want %d", limit, n, end, gone, rest)
			}
			stops(t, end, limit)
		}
	}
}
