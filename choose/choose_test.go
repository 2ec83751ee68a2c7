package choose

import (
	"math"
	"math/big"
	"math/rand"
	"slices"
	"testing"

	"becket/api"
)

// What the chapter tells: the ways of choosing, and how many guards a choice has at most.
const (
	pri    = 0
	fair   = 1
	anyOne = 2
	most   = 6
)

// modes are the three ways.
var modes = []int{pri, fair, anyOne}

// far are numbers that are far from all that is usual: the ends of int, and such as lose their height, or their sign, when they are cut to fewer bits.
var far = []int{math.MinInt, math.MinInt + 1, math.MinInt + 2, math.MinInt + 3, -1 << 62, -1 << 40, -1<<32 + 1, -1<<32 + 2, -1 << 32, -1 << 31, -1<<31 + 1, 1<<31 - 1, 1 << 31, 1<<31 + 1, 1<<32 - 1, 1 << 32, 1<<32 + 1, 1<<32 + 2, 1<<32 + 5, 1 << 40, 1 << 62, math.MaxInt - 2, math.MaxInt - 1, math.MaxInt}

// near are numbers that are near to what is usual, on both sides of it, and such as are usual when they are cut to a byte or two.
var near = []int{-65536, -65535, -257, -256, -255, -254, -128, -8, -7, -6, -5, -4, -3, -2, -1, 7, 8, 9, 127, 128, 129, 255, 256, 257, 258, 259, 260, 261, 262, 65535, 65536, 65537, 65538}

// outside are numbers that are neither a way of choosing, nor a number of guards, nor one of a guard.
var outside = slices.Concat(far, near)

// numbers are all of those, and what may be.
var numbers = slices.Concat(outside, []int{0, 1, 2, 3, 4, 5, 6})

// list is a list of numbers.
func list(l ...int) []int { return l }

// of is a choice by its fields.
func of(mode, many, turn int, ready ...int) Choice {
	return Choice{Mode: mode, Many: many, Turn: turn, Ready: ready}
}

// full are the numbers of so many guards, rising.
func full(many int) []int {
	var l []int
	for no := range many {
		l = append(l, no)
	}
	return l
}

// subsets are all rising lists of numbers of so many guards, the empty one first.
func subsets(many int) [][]int {
	var out [][]int
	for bits := range 1 << many {
		var l []int
		for no := range many {
			if bits>>no&1 == 1 {
				l = append(l, no)
			}
		}
		out = append(out, l)
	}
	return out
}

// lists are all lists of at most so many of these numbers, in all orders, each as often as may be.
func lists(from []int, long int) [][]int {
	out := [][]int{nil}
	last := out
	for range long {
		var next [][]int
		for _, l := range last {
			for _, no := range from {
				next = append(next, slices.Concat(l, []int{no}))
			}
		}
		out = append(out, next...)
		last = next
	}
	return out
}

// choices are all choices that may be, of a way.
func choices(mode int) []Choice {
	var out []Choice
	for many := 1; many <= most; many++ {
		for turn := range many {
			for _, ready := range subsets(many) {
				out = append(out, of(mode, many, turn, ready...))
			}
		}
	}
	return out
}

// may is a second reading of which choices may be: Ready is held against what it is when it is sorted, and each number stands in it once.
func may(c Choice) bool {
	if !slices.Contains(modes, c.Mode) || c.Many < 1 || c.Many > most || !slices.Contains(full(c.Many), c.Turn) {
		return false
	}
	sorted := slices.Clone(c.Ready)
	slices.Sort(sorted)
	if !slices.Equal(slices.Compact(sorted), c.Ready) {
		return false
	}
	for _, no := range c.Ready {
		if !slices.Contains(full(c.Many), no) {
			return false
		}
	}
	return true
}

// picked is a second reading of what Choose answers: by Fair the guards are gone through one after the other, in a round that begins at the turn; by Any w's distance from each place is reckoned in whole, in numbers of any size.
func picked(c Choice, w int) (int, api.Errno) {
	if !may(c) {
		return 0, api.ErrArg
	}
	if len(c.Ready) == 0 {
		return 0, api.ErrNone
	}
	switch c.Mode {
	case fair:
		for k := range c.Many {
			if no := (c.Turn + k) % c.Many; slices.Contains(c.Ready, no) {
				return no, api.OK
			}
		}
	case anyOne:
		for at, no := range c.Ready {
			apart := new(big.Int).Sub(big.NewInt(int64(w)), big.NewInt(int64(at)))
			if apart.Rem(apart, big.NewInt(int64(len(c.Ready)))).Sign() == 0 {
				return no, api.OK
			}
		}
	}
	return slices.Min(c.Ready), api.OK
}

// fine fails, unless Fine answers so, and leaves the list that it was handed as it was, and what lies behind it.
func fine(t *testing.T, c Choice, want bool) {
	t.Helper()
	memory, kept := around(&c)
	if got := Fine(c); got != want {
		t.Fatalf("Fine(%+v): %v; want %v", c, got, want)
	}
	if !slices.Equal(memory, kept) {
		t.Fatalf("Fine has written to the list that it was handed: %v; it was %v", memory, kept)
	}
}

// chooses fails, unless Choose answers so, and leaves the list that it was handed as it was, and what lies behind it.
func chooses(t *testing.T, c Choice, w, want int, err api.Errno) {
	t.Helper()
	memory, kept := around(&c)
	if got, e := Choose(c, w); got != want || e != err {
		t.Fatalf("Choose(%+v, %d): %d, %d; want %d, %d", c, w, got, e, want, err)
	}
	if !slices.Equal(memory, kept) {
		t.Fatalf("Choose has written to the list that it was handed: %v; it was %v", memory, kept)
	}
}

// around lets a choice's list be a part of a longer one, which is answered, and a copy of that.
func around(c *Choice) ([]int, []int) {
	memory := slices.Concat([]int{-11, -12}, c.Ready, []int{-13, -14, -15})
	c.Ready = memory[2 : 2+len(c.Ready)]
	return memory, slices.Clone(memory)
}

// refused fails, unless a choice may not be, and nothing is taken by any w.
func refused(t *testing.T, c Choice) {
	t.Helper()
	fine(t, c, false)
	for _, w := range []int{math.MinInt, -7, -1, 0, 1, 2, 6, math.MaxInt} {
		chooses(t, c, w, 0, api.ErrArg)
	}
}

// none fails, unless a choice may be, and nothing is ready in it, whatever w is.
func none(t *testing.T, c Choice) {
	t.Helper()
	fine(t, c, true)
	for _, w := range []int{math.MinInt, -7, -1, 0, 1, 2, 6, math.MaxInt} {
		chooses(t, c, w, 0, api.ErrNone)
	}
}

// takes fails, unless a choice may be, and this guard is taken, whatever w is.
func takes(t *testing.T, c Choice, want int) {
	t.Helper()
	fine(t, c, true)
	for _, w := range numbers {
		chooses(t, c, w, want, api.OK)
	}
}

// turns fails, unless Turn answers so.
func turns(t *testing.T, no, many, want int) {
	t.Helper()
	if got := Turn(no, many); got != want {
		t.Fatalf("Turn(%d, %d): %d; want %d", no, many, got, want)
	}
}

// The chapter's example.
func TestExamples(t *testing.T) {
	chooses(t, Choice{Mode: Fair, Many: 3, Turn: 2, Ready: []int{0, 1}}, 0, 0, api.OK)
}

// The ways of choosing are those numbers.
func TestWays(t *testing.T) {
	if Pri != pri || Fair != fair || Any != anyOne {
		t.Errorf("Pri, Fair, Any: %d, %d, %d", Pri, Fair, Any)
	}
}

// P27.1: Fine: the edges of the way, of how many guards there are, and of the turn.
func TestFine(t *testing.T) {
	for _, c := range []struct {
		mode, many, turn int
		want             bool
	}{
		{-1, 3, 0, false}, {0, 3, 0, true}, {1, 3, 0, true}, {2, 3, 0, true}, {3, 3, 0, false},
		{0, -1, 0, false}, {0, 0, 0, false}, {0, 1, 0, true}, {0, 2, 0, true}, {0, 5, 0, true}, {0, 6, 0, true}, {0, 7, 0, false}, {0, 8, 0, false},
		{1, -1, 0, false}, {1, 0, 0, false}, {1, 1, 0, true}, {1, 6, 0, true}, {1, 7, 0, false},
		{2, -1, 0, false}, {2, 0, 0, false}, {2, 1, 0, true}, {2, 6, 0, true}, {2, 7, 0, false},
		{1, 3, -1, false}, {1, 3, 1, true}, {1, 3, 2, true}, {1, 3, 3, false}, {1, 3, 4, false},
		{1, 1, -1, false}, {1, 1, 1, false}, {1, 2, 1, true}, {1, 2, 2, false}, {1, 6, 5, true}, {1, 6, 6, false}, {1, 6, -1, false},
		{0, 3, -1, false}, {0, 3, 2, true}, {0, 3, 3, false}, {2, 3, -1, false}, {2, 3, 2, true}, {2, 3, 3, false},
		{1, 0, -1, false}, {1, -1, -2, false}, {1, 7, 6, false}, {1, 7, 7, false}, {0, 8, 7, false},
	} {
		fine(t, of(c.mode, c.many, c.turn), c.want)
	}
}

// P27.1: Fine: lists of what is ready: none, one, all; numbers at the edges; lists that do not rise.
func TestFineReady(t *testing.T) {
	for _, c := range []struct {
		many  int
		ready []int
		want  bool
	}{
		{1, nil, true}, {1, list(), true}, {1, list(0), true}, {1, list(-1), false}, {1, list(1), false}, {1, list(0, 0), false}, {1, list(0, 1), false},
		{3, list(0), true}, {3, list(1), true}, {3, list(2), true}, {3, list(3), false}, {3, list(-1), false},
		{3, list(0, 1), true}, {3, list(0, 2), true}, {3, list(1, 2), true}, {3, list(0, 1, 2), true}, {3, list(1, 3), false}, {3, list(-1, 0), false}, {3, list(-1, 3), false},
		{3, list(1, 0), false}, {3, list(2, 0), false}, {3, list(2, 1), false}, {3, list(0, 2, 1), false}, {3, list(1, 0, 2), false}, {3, list(2, 1, 0), false}, {3, list(1, 2, 0), false},
		{3, list(0, 0), false}, {3, list(2, 2), false}, {3, list(0, 0, 1), false}, {3, list(0, 1, 1), false}, {3, list(0, 1, 0), false}, {3, list(1, 1, 1), false},
		{3, list(0, 1, 2, 3), false}, {3, list(-1, 0, 1, 2), false}, {3, list(0, 1, 2, 2), false}, {3, list(0, 0, 1, 2), false}, {3, list(0, 1, 2, 0), false}, {3, list(0, 1, 2, -1), false},
		{6, list(5), true}, {6, list(6), false}, {6, list(0, 5), true}, {6, list(0, 1, 2, 3, 4, 5), true}, {6, list(0, 1, 2, 3, 4, 6), false}, {6, list(-1, 1, 2, 3, 4, 5), false},
		{6, list(0, 1, 2, 3, 5, 4), false}, {6, list(1, 0, 2, 3, 4, 5), false}, {6, list(0, 1, 2, 3, 4, 5, 5), false}, {6, list(0, 1, 2, 3, 4, 5, 6), false}, {6, list(0, 2, 4), true}, {6, list(1, 3, 5), true},
		{5, list(5), false}, {5, list(0, 1, 2, 3, 4, 5), false}, {5, list(4), true}, {2, list(1), true}, {2, list(2), false}, {2, list(0, 1, 2), false},
	} {
		for _, mode := range modes {
			for _, turn := range []int{0, c.many - 1} {
				fine(t, of(mode, c.many, turn, c.ready...), c.want)
			}
		}
	}
}

// P27.1: Fine and Choose of all lists of few numbers, in all orders, of numbers of guards and of such as are just none.
func TestAllLists(t *testing.T) {
	for many := 1; many <= 4; many++ {
		for _, ready := range lists(slices.Concat([]int{-1}, full(many+1)), 4) {
			for _, mode := range modes {
				compare(t, of(mode, many, many/2, ready...), 1)
			}
		}
	}
}

// compare fails, unless Fine and Choose answer as a second reading does.
func compare(t *testing.T, c Choice, w int) {
	t.Helper()
	fine(t, c, may(c))
	no, e := picked(c, w)
	chooses(t, c, w, no, e)
}

// P27.1: Fine and Choose of all ways, numbers of guards and turns, from below what may be to above it, with none, one and all ready.
func TestAround(t *testing.T) {
	for mode := -3; mode <= 6; mode++ {
		for many := -3; many <= 10; many++ {
			for turn := -3; turn <= 11; turn++ {
				for _, ready := range [][]int{nil, {0}, {many - 1}, {many}, {-1}, {turn}, full(max(many, 0)), {5}, {0, 5}, {0, 6}} {
					for _, w := range []int{-1, 0, 1} {
						compare(t, of(mode, many, turn, ready...), w)
					}
				}
			}
		}
	}
}

// P27.1: Pri: the least, wherever the turn is.
func TestPri(t *testing.T) {
	for _, c := range []struct {
		many, turn int
		ready      []int
		want       int
	}{
		{1, 0, list(0), 0}, {2, 0, list(1), 1}, {2, 1, list(0), 0}, {2, 1, list(0, 1), 0},
		{3, 2, list(0, 1), 0}, {3, 2, list(1, 2), 1}, {3, 1, list(0, 1, 2), 0}, {3, 2, list(0, 1, 2), 0}, {3, 0, list(2), 2},
		{6, 0, list(5), 5}, {6, 5, list(0, 5), 0}, {6, 4, list(2, 3, 4, 5), 2}, {6, 5, list(0, 1, 2, 3, 4, 5), 0}, {6, 3, list(3, 4), 3},
	} {
		takes(t, of(Pri, c.many, c.turn, c.ready...), c.want)
	}
}

// P27.1: Fair: a turn that is ready, one that is not, one below all that are ready, and one above all of them.
func TestFair(t *testing.T) {
	for _, c := range []struct {
		many, turn int
		ready      []int
		want       int
	}{
		{1, 0, list(0), 0}, {2, 0, list(0, 1), 0}, {2, 1, list(0, 1), 1}, {2, 0, list(1), 1}, {2, 1, list(0), 0}, {2, 0, list(0), 0}, {2, 1, list(1), 1},
		{3, 2, list(0, 1), 0}, {3, 1, list(0, 2), 2}, {3, 1, list(0, 1), 1}, {3, 0, list(1, 2), 1}, {3, 2, list(1), 1}, {3, 0, list(2), 2},
		{3, 0, list(0, 1, 2), 0}, {3, 1, list(0, 1, 2), 1}, {3, 2, list(0, 1, 2), 2},
		{6, 0, list(1, 3, 5), 1}, {6, 1, list(1, 3, 5), 1}, {6, 2, list(1, 3, 5), 3}, {6, 3, list(1, 3, 5), 3}, {6, 4, list(1, 3, 5), 5}, {6, 5, list(1, 3, 5), 5},
		{6, 0, list(0, 2, 4), 0}, {6, 1, list(0, 2, 4), 2}, {6, 3, list(0, 2, 4), 4}, {6, 4, list(0, 2, 4), 4}, {6, 5, list(0, 2, 4), 0},
		{6, 5, list(0, 1, 2, 3, 4, 5), 5}, {6, 5, list(0, 1, 2, 3, 4), 0}, {6, 5, list(1, 2, 3, 4), 1}, {6, 0, list(5), 5}, {6, 5, list(0), 0}, {6, 3, list(2), 2}, {6, 2, list(2), 2}, {6, 1, list(2), 2},
	} {
		takes(t, of(Fair, c.many, c.turn, c.ready...), c.want)
	}
}

// P27.1: Any: w below 0, 0, within how many are ready, just that, about its multiples, and at both ends of an int.
func TestAny(t *testing.T) {
	for _, c := range []struct {
		many  int
		ready []int
		w     int
		want  int
	}{
		{3, list(0, 1, 2), -1, 2}, {3, list(0, 1, 2), 0, 0}, {3, list(0, 1, 2), 1, 1}, {3, list(0, 1, 2), 2, 2}, {3, list(0, 1, 2), 3, 0}, {3, list(0, 1, 2), 4, 1}, {3, list(0, 1, 2), -2, 1}, {3, list(0, 1, 2), -3, 0}, {3, list(0, 1, 2), -4, 2},
		{6, list(1, 4), -3, 4}, {6, list(1, 4), -2, 1}, {6, list(1, 4), -1, 4}, {6, list(1, 4), 0, 1}, {6, list(1, 4), 1, 4}, {6, list(1, 4), 2, 1}, {6, list(1, 4), 3, 4},
		{6, list(1, 3, 5), -4, 5}, {6, list(1, 3, 5), -3, 1}, {6, list(1, 3, 5), -1, 5}, {6, list(1, 3, 5), 0, 1}, {6, list(1, 3, 5), 2, 5}, {6, list(1, 3, 5), 3, 1}, {6, list(1, 3, 5), 5, 5}, {6, list(1, 3, 5), 6, 1}, {6, list(1, 3, 5), 299, 5}, {6, list(1, 3, 5), 300, 1}, {6, list(1, 3, 5), 301, 3}, {6, list(1, 3, 5), -300, 1}, {6, list(1, 3, 5), -299, 3}, {6, list(1, 3, 5), -301, 5},
		{6, list(0, 1, 2, 3, 4, 5), -7, 5}, {6, list(0, 1, 2, 3, 4, 5), -6, 0}, {6, list(0, 1, 2, 3, 4, 5), -5, 1}, {6, list(0, 1, 2, 3, 4, 5), 5, 5}, {6, list(0, 1, 2, 3, 4, 5), 6, 0}, {6, list(0, 1, 2, 3, 4, 5), 7, 1},
		{6, list(0, 1, 2, 3, 4), -1, 4}, {6, list(0, 1, 2, 3, 4), 5, 0}, {6, list(1, 2, 3, 4, 5), -5, 1}, {6, list(2, 3, 4, 5), -4, 2}, {6, list(2, 3, 4, 5), 7, 5},
		{6, list(0, 3), math.MaxInt, 3}, {6, list(0, 3), math.MinInt, 0}, {6, list(0, 3), math.MinInt + 1, 3}, {6, list(0, 3), math.MaxInt - 1, 0},
		{6, list(0, 2, 4), math.MaxInt, 2}, {6, list(0, 2, 4), math.MinInt, 2}, {6, list(0, 2, 4), math.MinInt + 1, 4}, {6, list(0, 2, 4), math.MinInt + 2, 0},
	} {
		for turn := range c.many {
			chooses(t, of(Any, c.many, turn, c.ready...), c.w, c.want, api.OK)
		}
	}
	takes(t, of(Any, 1, 0, 0), 0)
	for no := range most { // of one alone each w differs from its place by a multiple
		takes(t, of(Any, most, 0, no), no)
	}
}

// P27.1: all choices that may be, by numbers of all sizes.
func TestChooseAll(t *testing.T) {
	for _, mode := range modes {
		for _, c := range choices(mode) {
			ws := slices.Clone(far)
			for w := -14; w <= 14; w++ {
				ws = append(ws, w)
			}
			for _, w := range ws {
				compare(t, c, w)
			}
		}
	}
}

// P27.1: Any, by numbers about multiples of how many are ready, also by such as are far away.
func TestAnyMultiples(t *testing.T) {
	for _, c := range choices(Any) {
		many := len(c.Ready)
		if many == 0 {
			continue
		}
		for _, times := range []int{-1 << 32, -65536, -1000, -3, -2, -1, 0, 1, 2, 3, 1000, 65536, 1 << 32} {
			for k := range many {
				chooses(t, c, times*many+k, c.Ready[k], api.OK)
			}
		}
	}
}

// P27.1: choices of which none is ready, whether the list is nil or empty.
func TestNone(t *testing.T) {
	for _, mode := range modes {
		for many := 1; many <= most; many++ {
			for turn := range many {
				none(t, Choice{Mode: mode, Many: many, Turn: turn})
				none(t, Choice{Mode: mode, Many: many, Turn: turn, Ready: []int{}})
			}
		}
	}
	for _, c := range []Choice{{Many: 1}, {Many: 1, Ready: []int{}}, {Many: 1, Ready: make([]int, 0, 9)}} { // as they were handed in, too
		if got, e := Choose(c, 0); got != 0 || e != api.ErrNone {
			t.Errorf("Choose(%+v, 0): %d, %d", c, got, e)
		}
	}
}

// P27.1: numbers far below and far above, as the way, as how many, as the turn, and as what is ready.
func TestWrong(t *testing.T) {
	refused(t, Choice{}) // it has no guards
	for _, n := range outside {
		refused(t, of(n, 3, 1, 0, 2))
		for _, mode := range modes {
			refused(t, of(mode, n, 0, 0))
			refused(t, of(mode, n, n-1))
			refused(t, of(mode, 3, n, 0, 2))
			refused(t, of(mode, 6, n, 0, 1, 2, 3, 4, 5))
			refused(t, of(mode, 6, 0, n))
			refused(t, of(mode, 6, 0, n, 5))
			refused(t, of(mode, 6, 0, 0, n))
			refused(t, of(mode, 6, 0, 0, n, 5))
			refused(t, of(mode, 6, 5, 0, 1, 2, 3, 4, n))
		}
	}
}

// P27.1: all pairs of such numbers, in all places.
func TestWrongPairs(t *testing.T) {
	for _, a := range numbers {
		for _, b := range numbers {
			compare(t, of(a, b, 0, 0), 0)
			compare(t, of(a, 3, b, 0), 0)
			compare(t, of(Fair, a, b, 0), 0)
			compare(t, of(Any, 6, a, b), 1)
			compare(t, of(Pri, 6, 5, a, b), 1)
		}
	}
}

// P27.1: what may not be is told ahead of that none is ready, whatever else is wrong.
func TestOrder(t *testing.T) {
	for _, c := range []Choice{
		of(-1, 3, 0), of(3, 3, 0), of(0, 0, 0), of(1, 7, 0), of(2, 3, 3), of(1, 3, -1), of(3, 7, 7), of(-1, 0, -1), of(math.MaxInt, math.MinInt, math.MaxInt),
		of(3, 3, 0, 0), of(3, 3, 0, 3), of(0, 3, 3, 1, 0), of(1, 0, 0, 0), of(2, 7, 0, 7), of(-1, -1, -1, -1), of(3, 7, 8, 9, 9, 8),
	} {
		refused(t, c)
	}
}

// P27.1: lists that are longer than there are guards, up to such as are far longer: in each a number comes twice, or does not belong there.
func TestLong(t *testing.T) {
	for many := 1; many <= most; many++ {
		for _, mode := range modes {
			refused(t, of(mode, many, 0, full(many+1)...))
			for at := range many {
				refused(t, of(mode, many, 0, slices.Insert(full(many), at, at)...))
				refused(t, of(mode, many, 0, append(full(many), at)...))
			}
			refused(t, of(mode, many, 0, make([]int, 5000)...))
			refused(t, of(mode, many, 0, slices.Concat(full(many), make([]int, 5000))...))
			refused(t, of(mode, many, 0, full(5000)...))
		}
	}
}

// P27.2: Turn: within, at the last one, and at what may not be.
func TestTurn(t *testing.T) {
	for _, c := range []struct{ no, many, want int }{
		{-1, 1, 0}, {0, 1, 0}, {1, 1, 0}, {2, 1, 0},
		{-1, 2, 0}, {0, 2, 1}, {1, 2, 0}, {2, 2, 0}, {3, 2, 0},
		{-2, 3, 0}, {-1, 3, 0}, {0, 3, 1}, {1, 3, 2}, {2, 3, 0}, {3, 3, 0}, {4, 3, 0},
		{-1, 6, 0}, {0, 6, 1}, {1, 6, 2}, {2, 6, 3}, {3, 6, 4}, {4, 6, 5}, {5, 6, 0}, {6, 6, 0}, {7, 6, 0},
		{-1, 7, 0}, {0, 7, 0}, {1, 7, 0}, {5, 7, 0}, {6, 7, 0}, {7, 7, 0},
		{-1, 0, 0}, {0, 0, 0}, {1, 0, 0}, {-2, -1, 0}, {-1, -1, 0}, {0, -1, 0}, {1, -1, 0},
	} {
		turns(t, c.no, c.many, c.want)
	}
}

// P27.2: Turn of all numbers about all numbers of guards, of such as are far away, and at both ends of an int.
func TestTurnAll(t *testing.T) {
	nos := slices.Clone(numbers)
	for n := -40; n <= 40; n++ {
		nos = append(nos, n)
	}
	for _, many := range nos {
		for _, no := range append(slices.Clone(nos), many, many-1, many-2) {
			want := 0
			if may(of(Fair, many, no)) && may(of(Fair, many, no+1)) { // both are the numbers of guards
				want = no + 1
			}
			turns(t, no, many, want)
		}
	}
}

// P27.2: the turn goes round: each guard has it once in as many turns as there are guards.
func TestTurnRound(t *testing.T) {
	for many := 1; many <= most; many++ {
		for from := range many {
			var had []int
			turn := from
			for range many {
				had = append(had, turn)
				turn = Turn(turn, many)
			}
			if turn != from {
				t.Errorf("%d guards, from %d: %v, and then %d", many, from, had, turn)
			}
			slices.Sort(had)
			if !slices.Equal(had, full(many)) {
				t.Errorf("%d guards, from %d: had by %v", many, from, had)
			}
		}
	}
}

// take is the guard that is taken of a choice that may be, with something ready; it is one that is ready.
func take(t *testing.T, c Choice, w int) int {
	t.Helper()
	no, e := Choose(c, w)
	if e != api.OK || !slices.Contains(c.Ready, no) {
		t.Fatalf("Choose(%+v, %d): %d, %d; it is not ready", c, w, no, e)
	}
	return no
}

// P27.3: by Pri nothing is taken above anything else that is ready.
func TestPriLeast(t *testing.T) {
	for _, c := range choices(Pri) {
		if len(c.Ready) == 0 {
			continue
		}
		for _, w := range []int{math.MinInt, -3, 0, 1, 4, math.MaxInt} {
			if no := take(t, c, w); no != slices.Min(c.Ready) {
				t.Errorf("Choose(%+v, %d): %d", c, w, no)
			}
		}
	}
}

// P27.3: by Any each that is ready is taken by some w, and none that is not: by any so many numbers in a row, as many as are ready, each is taken once.
func TestAnyEach(t *testing.T) {
	for _, c := range choices(Any) {
		if len(c.Ready) == 0 {
			continue
		}
		for _, from := range []int{math.MinInt, -1 << 31, -300, -7, -6, -3, -1, 0, 1, 2, 5, 6, 300, 1<<31 - 3, math.MaxInt - 5} {
			var had []int
			for k := range c.Ready {
				had = append(had, take(t, c, from+k))
			}
			slices.Sort(had)
			if !slices.Equal(had, c.Ready) {
				t.Errorf("%+v, from %d on: %v", c, from, had)
			}
		}
	}
}

// P27.3: by Fair, with all guards ready all the time, they are taken round and round.
func TestFairRound(t *testing.T) {
	for many := 1; many <= most; many++ {
		for turn := range many {
			for k := range 3 * many {
				if no := take(t, of(Fair, many, turn, full(many)...), k); no != turn {
					t.Fatalf("%d guards, turn %d: %d", many, turn, no)
				}
				turn = Turn(turn, many)
			}
		}
	}
}

// passed are the turns to which choices by Fair lead from these, with a guard ready that is not taken, whichever others are ready.
func passed(t *testing.T, many, guard int, from []int) []int {
	t.Helper()
	var to []int
	for _, turn := range from {
		for _, ready := range subsets(many) {
			if !slices.Contains(ready, guard) {
				continue
			}
			if no := take(t, of(Fair, many, turn, ready...), 0); no != guard {
				to = append(to, Turn(no, many))
			}
		}
	}
	slices.Sort(to)
	return slices.Compact(to)
}

// P27.3: by Fair no guard that is ready all the time is passed over as often as there are guards: all ways that there are lead to it sooner, from wherever the turn stands.
func TestFairAll(t *testing.T) {
	for many := 1; many <= most; many++ {
		for guard := range many {
			from := full(many)
			for range many {
				from = passed(t, many, guard, from)
			}
			if len(from) != 0 {
				t.Errorf("%d guards: %d may be passed over %d times, the turn is at %v then", many, guard, many, from)
			}
		}
	}
}

// P27.3: long runs by chance, in which guards come to be ready, stay so, and cease to be: how often each is passed over is counted from when it came to be ready, or was taken.
func TestFairChance(t *testing.T) {
	r := rand.New(rand.NewSource(273))
	for many := 1; many <= most; many++ {
		for range 60 {
			var over [most]int
			turn := r.Intn(many)
			is := make([]bool, many)
			for range 400 {
				turn = stepFair(t, r, is, turn, &over)
			}
		}
	}
}

// stepFair is whose turn it is behind one choice by Fair, ahead of which one guard comes to be ready, or ceases to be.
func stepFair(t *testing.T, r *rand.Rand, is []bool, turn int, over *[most]int) int {
	t.Helper()
	many := len(is)
	at := r.Intn(many)
	is[at] = !is[at] || r.Intn(3) > 0
	var ready []int
	for no, now := range is {
		if now {
			ready = append(ready, no)
		}
	}
	if len(ready) == 0 {
		over[at] = 0
		none(t, of(Fair, many, turn))
		return turn
	}
	no := take(t, of(Fair, many, turn, ready...), r.Int())
	for k, now := range is {
		switch {
		case !now || k == no:
			over[k] = 0
		default:
			over[k]++
		}
		if over[k] >= many {
			t.Fatalf("%d guards: %d is passed over %d times", many, k, over[k])
		}
	}
	return Turn(no, many)
}

// R3: what is answered hangs on the arguments alone: calls of other choices in between change nothing.
func TestAgain(t *testing.T) {
	r := rand.New(rand.NewSource(27))
	for range 2000 {
		c := chance(r)
		w := int(r.Uint64()) >> r.Intn(64)
		compare(t, c, w)
		compare(t, chance(r), w)
		Turn(c.Turn, c.Many)
		compare(t, c, w)
	}
}

// chance is a choice by chance, most of the time one that may be.
func chance(r *rand.Rand) Choice {
	many := 1 + r.Intn(most)
	sets := subsets(many)
	c := of(r.Intn(3), many, r.Intn(many), sets[r.Intn(len(sets))]...)
	switch r.Intn(8) {
	case 0:
		c.Mode = numbers[r.Intn(len(numbers))]
	case 1:
		c.Many = numbers[r.Intn(len(numbers))]
	case 2:
		c.Turn = numbers[r.Intn(len(numbers))]
	case 3:
		c.Ready = append(slices.Clone(c.Ready), numbers[r.Intn(len(numbers))])
	}
	return c
}
