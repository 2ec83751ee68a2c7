package poison

import (
	"math"
	"math/rand"
	"slices"
	"testing"

	"becket/api"
)

// last is the last level, and the greatest strength, as the document tells it.
const last = 255

// edges are the first and last levels, some that are near them, near the ends of smaller types, and in between; but for 0, they are strengths as well.
var edges = []int{0, 1, 2, 3, 4, 5, 8, 9, 63, 64, 100, 127, 128, 129, 200, 253, 254, 255}

// noLevels are numbers that are no levels: beside the first one and the last one, such as become a level when they are cut to fewer bits, or lose their sign, and the ends of int.
var noLevels = []int{math.MinInt, math.MinInt + 1, math.MinInt + 5, math.MinInt + 256, -1 << 32, -1<<32 + 5, -1 << 31, -65536, -65531, -512, -257, -256, -255, -254, -251, -128, -5, -2, -1, 256, 257, 261, 300, 510, 511, 512, 517, 65535, 65536, 65541, 1<<31 - 1, 1 << 31, 1<<32 - 1, 1 << 32, 1<<32 + 5, 1 << 62, math.MaxInt - 255, math.MaxInt - 1, math.MaxInt}

// levels are all that may be.
func levels() []int {
	var l []int
	for n := range last + 1 {
		l = append(l, n)
	}
	return l
}

// strengths are all that may be.
func strengths() []int { return levels()[1:] }

// around are numbers within the levels and on both sides of them, and all that are none.
func around() []int {
	var l []int
	for n := -40; n <= last+40; n++ {
		l = append(l, n)
	}
	return slices.Concat(l, noLevels)
}

// level is a second reading of the word level.
func level(n int) bool { return !(n < 0) && !(n > last) }

// strong is a second reading of the word strength.
func strong(n int) bool { return !(n < 1) && !(n > last) }

// greater is a second reading of what Raise answers.
func greater(from, by int) (int, api.Errno) {
	switch {
	case !level(from), !strong(by):
		return 0, api.ErrRange
	case by > from:
		return by, api.OK
	}
	return from, api.OK
}

// sought is a second reading of what Least answers: strength by strength, it is asked whether one of the ends bears less.
func sought(bears []int) (int, bool) {
	for _, n := range bears {
		if !level(n) {
			return 0, false
		}
	}
	for _, by := range strengths() {
		for _, n := range bears {
			if by > n {
				return by, true
			}
		}
	}
	return 0, false
}

// raises fails, unless Raise answers so.
func raises(t *testing.T, from, by, want int, err api.Errno) {
	t.Helper()
	if got, e := Raise(from, by); got != want || e != err {
		t.Errorf("Raise(%d, %d): %d, %d; want %d, %d", from, by, got, e, want, err)
	}
}

// hits fails, unless Hit answers so.
func hits(t *testing.T, at, bears int, want bool) {
	t.Helper()
	if got := Hit(at, bears); got != want {
		t.Errorf("Hit(%d, %d): %v; want %v", at, bears, got, want)
	}
}

// all fails, unless All answers so, and leaves what it was handed as it was, as far as its memory goes.
func all(t *testing.T, from []int, by int, want []int, err api.Errno) {
	t.Helper()
	memory := append(slices.Clone(from), -7, -8, -9)
	before := slices.Clone(memory)
	got, e := All(memory[:len(from)], by)
	if !slices.Equal(got, want) || e != err {
		t.Errorf("All(%v, %d): %v, %d; want %v, %d", from, by, got, e, want, err)
	}
	for i := range got {
		got[i] = -3
	}
	_ = append(got, -4, -5)
	if !slices.Equal(memory, before) {
		t.Errorf("All(%v, %d), and what is done to its answer: it has written to %v", from, by, memory)
	}
}

// least fails, unless Least answers so, and leaves what it was handed as it was.
func least(t *testing.T, want int, is bool, bears ...int) {
	t.Helper()
	before := slices.Clone(bears)
	if got, there := Least(bears...); got != want || there != is {
		t.Errorf("Least(%v): %d, %v; want %d, %v", bears, got, there, want, is)
	}
	if !slices.Equal(bears, before) {
		t.Errorf("Least(%v): it has written to its list: %v", before, bears)
	}
}

// raise is the level to which poison leads that may be.
func raise(t *testing.T, from, by int) int {
	t.Helper()
	to, e := Raise(from, by)
	if e != api.OK {
		t.Fatalf("Raise(%d, %d): %d", from, by, e)
	}
	return to
}

// raiseBy is the level to which one strength after the other leads.
func raiseBy(t *testing.T, from int, by []int) int {
	t.Helper()
	for _, n := range by {
		from = raise(t, from, n)
	}
	return from
}

// raiseAll are the levels to which poison leads that may be.
func raiseAll(t *testing.T, from []int, by int) []int {
	t.Helper()
	to, e := All(from, by)
	if e != api.OK {
		t.Fatalf("All(%v, %d): %d", from, by, e)
	}
	return to
}

// with is a list with one number more, at a place.
func with(l []int, at, n int) []int { return slices.Insert(slices.Clone(l), at, n) }

// ways are all lists of so many of these numbers, each as often as may be.
func ways(of []int, many int) [][]int {
	out := [][]int{nil}
	for range many {
		var next [][]int
		for _, l := range out {
			for _, n := range of {
				next = append(next, with(l, len(l), n))
			}
		}
		out = next
	}
	return out
}

// The chapter's examples.
func TestExamples(t *testing.T) {
	raises(t, 3, 2, 3, api.OK)
	hits(t, 3, 3, false)
	least(t, 5, true, 4, 9)
}

// P16.1: Fine: all levels, and numbers that are none.
func TestFine(t *testing.T) {
	for _, c := range []struct {
		n    int
		want bool
	}{{-1, false}, {0, true}, {1, true}, {254, true}, {255, true}, {256, false}} {
		if got := Fine(c.n); got != c.want {
			t.Errorf("Fine(%d): %v", c.n, got)
		}
	}
	for _, n := range levels() {
		if !Fine(n) {
			t.Errorf("Fine(%d): false", n)
		}
	}
	for _, n := range noLevels {
		if Fine(n) {
			t.Errorf("Fine(%d): true", n)
		}
	}
}

// P16.1: Raise: the same level and strength, one less, one more, and both ends.
func TestRaise(t *testing.T) {
	for _, c := range []struct{ from, by, want int }{
		{0, 1, 1}, {0, 2, 2}, {0, 254, 254}, {0, 255, 255},
		{1, 1, 1}, {1, 2, 2}, {1, 255, 255}, {2, 1, 2}, {2, 2, 2}, {2, 3, 3},
		{3, 2, 3}, {3, 3, 3}, {3, 4, 4}, {127, 128, 128}, {128, 127, 128}, {128, 128, 128},
		{254, 1, 254}, {254, 253, 254}, {254, 254, 254}, {254, 255, 255},
		{255, 1, 255}, {255, 254, 255}, {255, 255, 255},
	} {
		raises(t, c.from, c.by, c.want, api.OK)
	}
}

// P16.1: Raise of a level, or by a strength, that may not be: just outside, and far off; then nothing is told but the error.
func TestRaiseRange(t *testing.T) {
	for _, c := range []struct{ from, by int }{
		{-1, 1}, {-1, 255}, {256, 1}, {256, 255}, {-1, 0}, {256, 256}, {-1, 256}, {256, 0}, {-1, -1},
		{0, 0}, {1, 0}, {254, 0}, {255, 0}, {0, -1}, {1, -1}, {255, -1}, {0, 256}, {1, 256}, {254, 256}, {255, 256},
		{math.MinInt, 5}, {math.MaxInt, 5}, {5, math.MinInt}, {5, math.MaxInt}, {math.MinInt, math.MaxInt}, {math.MaxInt, math.MinInt},
	} {
		raises(t, c.from, c.by, 0, api.ErrRange)
	}
	for _, no := range noLevels {
		for _, n := range around() {
			raises(t, no, n, 0, api.ErrRange)
			raises(t, n, no, 0, api.ErrRange)
		}
	}
}

// P16.1: Raise of all levels by all strengths, and of what lies around them.
func TestRaisePairs(t *testing.T) {
	for _, from := range around() {
		for _, by := range around() {
			want, err := greater(from, by)
			raises(t, from, by, want, err)
		}
	}
}

// P16.1: Hit: a level that is what the end bears, one less, one more, and both ends.
func TestHit(t *testing.T) {
	for _, c := range []struct {
		at, bears int
		want      bool
	}{
		{0, 0, false}, {0, 1, false}, {0, 254, false}, {0, 255, false},
		{1, 0, true}, {1, 1, false}, {1, 2, false}, {2, 1, true},
		{3, 2, true}, {3, 3, false}, {3, 4, false}, {128, 127, true}, {127, 128, false},
		{254, 0, true}, {254, 253, true}, {254, 254, false}, {254, 255, false},
		{255, 0, true}, {255, 253, true}, {255, 254, true}, {255, 255, false},
	} {
		hits(t, c.at, c.bears, c.want)
	}
}

// P16.1: Hit, where one of both is not fine, or neither is: however far the one is above the other.
func TestHitWrong(t *testing.T) {
	for _, c := range []struct{ at, bears int }{
		{-1, 0}, {0, -1}, {1, -1}, {255, -1}, {256, 0}, {256, 254}, {256, 255}, {255, 256}, {257, 256}, {-1, -2}, {256, -1},
		{5, math.MinInt}, {math.MaxInt, 5}, {math.MaxInt, math.MinInt}, {math.MinInt, 5}, {5, math.MaxInt}, {math.MaxInt, math.MaxInt - 1},
	} {
		hits(t, c.at, c.bears, false)
	}
	for _, no := range noLevels {
		for _, n := range around() {
			hits(t, no, n, false)
			hits(t, n, no, false)
		}
	}
}

// P16.1: Hit of all pairs, and of what lies around them.
func TestHitPairs(t *testing.T) {
	for _, at := range around() {
		for _, bears := range around() {
			hits(t, at, bears, level(at) && level(bears) && at > bears)
		}
	}
}

// P16.2: All: no levels, one, and many, in their order; what is stronger already stays.
func TestAll(t *testing.T) {
	for _, c := range []struct {
		from []int
		by   int
		want []int
	}{
		{nil, 1, nil}, {nil, 255, nil}, {[]int{}, 1, nil}, {[]int{}, 5, []int{}},
		{[]int{0}, 1, []int{1}}, {[]int{1}, 1, []int{1}}, {[]int{2}, 1, []int{2}}, {[]int{0}, 255, []int{255}}, {[]int{255}, 1, []int{255}}, {[]int{255}, 255, []int{255}},
		{[]int{4, 5, 6}, 5, []int{5, 5, 6}}, {[]int{6, 5, 4}, 5, []int{6, 5, 5}},
		{[]int{0, 255, 1, 254, 2}, 1, []int{1, 255, 1, 254, 2}}, {[]int{0, 255, 1, 254, 2}, 254, []int{254, 255, 254, 254, 254}}, {[]int{0, 255, 1, 254, 2}, 255, []int{255, 255, 255, 255, 255}},
		{[]int{0, 0, 0}, 7, []int{7, 7, 7}}, {[]int{9, 3, 9, 3}, 8, []int{9, 8, 9, 8}},
	} {
		all(t, c.from, c.by, c.want, api.OK)
	}
}

// P16.2: All by what is no strength: of no levels, too, of such as may be, and of such as may not.
func TestAllStrength(t *testing.T) {
	for _, by := range with(noLevels, 0, 0) {
		for _, from := range [][]int{nil, {}, {0}, {5}, {255}, {0, 5, 255}, {-1}, {256}, {0, 256}, {256, 0}, levels()} {
			all(t, from, by, nil, api.ErrRange)
		}
	}
}

// P16.2: All of levels one of which may not be: at the first place, in the middle, at the last one, and alone.
func TestAllRange(t *testing.T) {
	for _, no := range noLevels {
		for _, by := range []int{0, 1, 5, 254, 255, 256} {
			for _, fine := range [][]int{nil, {0}, {255}, {0, 5, 9, 254, 255}} {
				for at := range len(fine) + 1 {
					all(t, with(fine, at, no), by, nil, api.ErrRange)
				}
			}
			all(t, []int{no, 1, no}, by, nil, api.ErrRange)
			all(t, []int{no, no}, by, nil, api.ErrRange)
		}
	}
}

// P16.2: All of all levels, by each strength: each of them is what Raise tells of it.
func TestAllOfAll(t *testing.T) {
	up := levels()
	down := slices.Clone(up)
	slices.Reverse(down)
	for _, from := range [][]int{up, down, slices.Concat(up, down)} {
		for _, by := range strengths() {
			var want []int
			for _, n := range from {
				to, _ := greater(n, by)
				want = append(want, to)
			}
			all(t, from, by, want, api.OK)
		}
	}
}

// P16.2: All of long lists by chance, some with one level that may not be.
func TestAllChance(t *testing.T) {
	r := rand.New(rand.NewSource(16))
	for range 400 {
		from, want, err := make([]int, r.Intn(600)), []int(nil), api.OK
		for i := range from {
			from[i] = r.Intn(last + 1)
		}
		if len(from) > 0 && r.Intn(3) == 0 {
			from[r.Intn(len(from))] = noLevels[r.Intn(len(noLevels))]
		}
		by := r.Intn(last+3) - 1
		for _, n := range from {
			to, e := greater(n, by)
			want, err = append(want, to), max(err, e)
		}
		if err != api.OK || !strong(by) {
			want, err = nil, api.ErrRange
		}
		all(t, from, by, want, err)
	}
}

// P16.2: two lists that All answers share no memory.
func TestAllNew(t *testing.T) {
	from := []int{7, 8, 9}
	a, b := raiseAll(t, from, 1), raiseAll(t, from, 1)
	a[0], from[1] = 200, 201
	_ = append(a[:1], 202)
	if want := []int{7, 8, 9}; !slices.Equal(b, want) {
		t.Errorf("%v; want %v", b, want)
	}
	if want := []int{7, 201, 9}; !slices.Equal(from, want) {
		t.Errorf("%v; want %v", from, want)
	}
}

// P16.2: Least: no ends, one, several, some that bear all, and all of them.
func TestLeast(t *testing.T) {
	least(t, 0, false)
	least(t, 0, false, []int{}...)
	for _, c := range []struct {
		bears []int
		want  int
	}{
		{[]int{0}, 1}, {[]int{1}, 2}, {[]int{4}, 5}, {[]int{127}, 128}, {[]int{253}, 254}, {[]int{254}, 255},
		{[]int{4, 9}, 5}, {[]int{9, 4}, 5}, {[]int{4, 4}, 5}, {[]int{4, 5}, 5}, {[]int{5, 4}, 5}, {[]int{0, 0, 0}, 1},
		{[]int{9, 4, 7}, 5}, {[]int{4, 7, 9}, 5}, {[]int{9, 7, 4}, 5}, {[]int{254, 0, 254}, 1}, {[]int{254, 253}, 254},
		{[]int{255, 254}, 255}, {[]int{254, 255}, 255}, {[]int{255, 0}, 1}, {[]int{0, 255}, 1}, {[]int{255, 3, 255}, 4}, {[]int{3, 255, 255}, 4}, {[]int{255, 255, 3}, 4},
	} {
		least(t, c.want, true, c.bears...)
	}
	for many := range 9 {
		least(t, 0, false, slices.Repeat([]int{255}, many)...)
	}
}

// P16.2: Least, where an end is not fine: alone, beside others at each place, and beside such as bear all.
func TestLeastWrong(t *testing.T) {
	for _, no := range noLevels {
		for _, fine := range [][]int{nil, {0}, {254}, {255}, {255, 255}, {0, 0}, {4, 9, 254, 255}, {0, 4, 254}} {
			for at := range len(fine) + 1 {
				least(t, 0, false, with(fine, at, no)...)
			}
		}
		for _, other := range noLevels {
			least(t, 0, false, no, other)
			least(t, 0, false, no, 5, other)
		}
	}
}

// P16.2: Least of each end, of all pairs, and of all threes and fours of a few, not fine ones among them, held against Hit by each strength.
func TestLeastMany(t *testing.T) {
	for _, a := range around() {
		want, is := sought([]int{a})
		least(t, want, is, a)
	}
	for _, a := range levels() {
		for _, b := range levels() {
			want, is := min(a, b)+1, min(a, b) < last
			if !is {
				want = 0
			}
			least(t, want, is, a, b)
		}
	}
	few := []int{-1, 0, 1, 2, 9, 254, 255, 256}
	for many := range 5 {
		for _, bears := range ways(few, many) {
			want, is := sought(bears)
			least(t, want, is, bears...)
		}
	}
}

// P16.2: what Least tells hits one of the ends, and nothing that is weaker hits any.
func TestLeastHits(t *testing.T) {
	for many := range 4 {
		for _, bears := range ways(edges, many) {
			by, is := Least(bears...)
			hit := func(at int) bool {
				return slices.ContainsFunc(bears, func(n int) bool { return Hit(at, n) })
			}
			switch {
			case is && (!hit(by) || hit(by-1)):
				t.Errorf("Least(%v): %d: is one hit: %v; by one less: %v", bears, by, hit(by), hit(by-1))
			case !is && hit(last):
				t.Errorf("Least(%v): none, but %d hits one", bears, last)
			}
		}
	}
}

// P16.3: two that come one after the other: in either order the level is the same; and one that comes again changes nothing.
func TestTwoInOrder(t *testing.T) {
	for _, from := range levels() {
		for _, a := range edges[1:] {
			once := raise(t, from, a)
			if twice := raise(t, once, a); twice != once {
				t.Errorf("%d, by %d twice: %d; want %d", from, a, twice, once)
			}
			for _, b := range strengths() {
				one, other := raise(t, once, b), raise(t, raise(t, from, b), a)
				if one != other || one != max(from, a, b) {
					t.Errorf("%d, by %d and %d: %d, and turned round %d; want %d", from, a, b, one, other, max(from, a, b))
				}
			}
		}
	}
}

// P16.3: all runs of a few strengths: what comes of them hangs on which they are alone, and is the strongest.
func TestRuns(t *testing.T) {
	few := []int{1, 2, 5, 254, 255}
	for _, from := range []int{0, 1, 4, 5, 6, 254, 255} {
		for many := range 6 {
			for _, by := range ways(few, many) {
				want := from
				for _, n := range by {
					want = max(want, n)
				}
				if got := raiseBy(t, from, by); got != want {
					t.Errorf("%d, by %v: %d; want %d", from, by, got, want)
				}
			}
		}
	}
}

// P16.3: long runs by chance, in another order, and each of them more than once.
func TestShuffled(t *testing.T) {
	r := rand.New(rand.NewSource(163))
	for range 500 {
		from, by := r.Intn(last+1), make([]int, r.Intn(40))
		for i := range by {
			by[i] = 1 + r.Intn(last)>>r.Intn(8)
		}
		want := raiseBy(t, from, by)
		again := slices.Concat(by, by, by)
		r.Shuffle(len(again), func(i, k int) { again[i], again[k] = again[k], again[i] })
		if got := raiseBy(t, from, again); got != want {
			t.Errorf("%d, by %v: %d; by %v: %d", from, by, want, again, got)
		}
	}
}

// P16.3: of all levels, too, the order of two is the same, and one that comes again changes nothing.
func TestAllInOrder(t *testing.T) {
	from := levels()
	for _, a := range edges[1:] {
		once := raiseAll(t, from, a)
		if twice := raiseAll(t, once, a); !slices.Equal(twice, once) {
			t.Errorf("all, by %d twice: %v; want %v", a, twice, once)
		}
		for _, b := range edges[1:] {
			one, other := raiseAll(t, once, b), raiseAll(t, raiseAll(t, from, b), a)
			if !slices.Equal(one, other) || !slices.Equal(one, raiseAll(t, from, max(a, b))) {
				t.Errorf("all, by %d and %d: %v, and turned round %v", a, b, one, other)
			}
		}
	}
}

// P16.3: an end that is hit stays hit, and one that is not is hit just by what is above what it bears.
func TestStaysHit(t *testing.T) {
	for _, at := range levels() {
		for _, bears := range levels() {
			before := Hit(at, bears)
			for _, by := range edges[1:] {
				if got := Hit(raise(t, at, by), bears); got != (before || by > bears) {
					t.Errorf("Hit(%d, %d): %v; behind %d: %v", at, bears, before, by, got)
				}
			}
		}
	}
}

// P16.3: an end that is hit at some time of a long run stays hit to its end, be there poison that may not be in between.
func TestStaysHitLong(t *testing.T) {
	r := rand.New(rand.NewSource(1603))
	for range 500 {
		at, bears, hit := 0, r.Intn(last+1), false
		for range 60 {
			by := r.Intn(last+3)>>r.Intn(8) - 1
			if to, e := Raise(at, by); e == api.OK {
				at = to
			} else if strong(by) {
				t.Fatalf("Raise(%d, %d): %d", at, by, e)
			}
			hit = hit || strong(by) && by > bears
			hits(t, at, bears, hit)
		}
	}
}
