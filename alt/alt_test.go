package alt

import (
	"math"
	"math/rand"
	"slices"
	"testing"

	"becket/api"
)

// What the chapter tells: the modes, and how many guards there are at most.
const (
	none     = 0
	putting  = 1
	standing = 2
	taking   = 3
	most     = 6
)

// far are numbers that are far from all that is usual: the ends of int, and such as lose their height, or their sign, when they are cut to fewer bits, or when others are added or taken off.
var far = []int{math.MinInt, math.MinInt + 1, math.MinInt + 2, math.MinInt + 3, math.MinInt + 6, math.MinInt + 7, -1 << 62, -1 << 40, -1<<32 + 1, -1<<32 + 2, -1 << 32, -1 << 31, -1<<31 + 1, 1<<31 - 1, 1 << 31, 1<<31 + 1, 1<<32 - 1, 1 << 32, 1<<32 + 1, 1<<32 + 2, 1<<32 + 3, 1<<32 + 6, 1 << 40, 1 << 62, math.MaxInt - 6, math.MaxInt - 5, math.MaxInt - 2, math.MaxInt - 1, math.MaxInt}

// near are numbers that are near to what is usual, on both sides of it, and such as are usual when they are cut to a byte or two.
var near = []int{-65536, -65535, -65533, -257, -256, -255, -254, -253, -250, -128, -8, -7, -6, -5, -4, -3, -2, -1, 7, 8, 9, 127, 128, 129, 255, 256, 257, 258, 259, 260, 261, 262, 65535, 65536, 65537, 65538, 65539, 65542}

// outside are numbers that are neither a mode, nor of guards, nor of places.
var outside = slices.Concat(far, near)

// numbers are all of those, and what may be.
var numbers = slices.Concat(outside, []int{0, 1, 2, 3, 4, 5, 6})

// of is a state by its fields.
func of(mode, many, done, pick int) State {
	return State{Mode: mode, Many: many, Done: done, Pick: pick}
}

// begun is a state that is Putting, with so many in.
func begun(many, done int) State { return of(putting, many, done, 0) }

// stood is a state that is Standing.
func stood(many int) State { return of(standing, many, many, 0) }

// took is a state that is Taking, with so many withdrawn.
func took(many, pick, done int) State { return of(taking, many, done, pick) }

// states are all states that may be, each once, written out as the chapter's words tell them.
func states() []State {
	out := []State{{}}
	for many := 1; many <= most; many++ {
		for done := range many {
			out = append(out, begun(many, done))
		}
		out = append(out, stood(many))
		for pick := range many {
			for done := range many - 1 {
				out = append(out, took(many, pick, done))
			}
		}
	}
	return out
}

// inMode are the states that may be, of a mode.
func inMode(mode int) []State {
	return slices.DeleteFunc(states(), func(s State) bool { return s.Mode != mode })
}

// wrongs are states that may not be: of each that may be all with one field, or two, that is another one, as far as these may not be.
func wrongs() []State {
	all := states()
	var out []State
	add := func(s State) {
		if !slices.Contains(all, s) {
			out = append(out, s)
		}
	}
	few := []int{math.MinInt, -257, -1, 0, 1, 2, 5, 6, 7, 256, 1<<32 + 1, math.MaxInt}
	for _, s := range all {
		for _, n := range numbers {
			for field := range 4 {
				add(with(s, field, n))
			}
		}
		for _, a := range few {
			for _, b := range few {
				for field := range 4 {
					for other := range field {
						add(with(with(s, field, a), other, b))
					}
				}
			}
		}
	}
	return out
}

// with is a state with another number in one of its fields.
func with(s State, field, n int) State {
	switch field {
	case 0:
		s.Mode = n
	case 1:
		s.Many = n
	case 2:
		s.Done = n
	case 3:
		s.Pick = n
	}
	return s
}

// full are the places of so many guards, rising.
func full(many int) []int {
	var l []int
	for at := range many {
		l = append(l, at)
	}
	return l
}

// still are the places that are neither taken nor withdrawn, rising, of a state that is Taking: a second reading, by a list from which the last one goes, time by time.
func still(s State) []int {
	l := slices.DeleteFunc(full(s.Many), func(at int) bool { return at == s.Pick })
	for range s.Done {
		l = slices.Delete(l, len(l)-1, len(l))
	}
	return l
}

// fine fails, unless Fine answers so.
func fine(t *testing.T, s State, want bool) {
	t.Helper()
	if got := Fine(s); got != want {
		t.Errorf("Fine(%+v): %v; want %v", s, got, want)
	}
}

// begins fails, unless Begin answers so.
func begins(t *testing.T, many int, want State, err api.Errno) {
	t.Helper()
	if got, e := Begin(many); got != want || e != err {
		t.Errorf("Begin(%d): %+v, %d; want %+v, %d", many, got, e, want, err)
	}
}

// puts fails, unless Put answers so.
func puts(t *testing.T, s, want State, at int, err api.Errno) {
	t.Helper()
	if got, n, e := Put(s); got != want || n != at || e != err {
		t.Errorf("Put(%+v): %+v, %d, %d; want %+v, %d, %d", s, got, n, e, want, at, err)
	}
}

// takes fails, unless Take answers so.
func takes(t *testing.T, s State, at int, want State, err api.Errno) {
	t.Helper()
	if got, e := Take(s, at); got != want || e != err {
		t.Errorf("Take(%+v, %d): %+v, %d; want %+v, %d", s, at, got, e, want, err)
	}
}

// withdraws fails, unless Withdraw answers so.
func withdraws(t *testing.T, s, want State, at int, err api.Errno) {
	t.Helper()
	if got, n, e := Withdraw(s); got != want || n != at || e != err {
		t.Errorf("Withdraw(%+v): %+v, %d, %d; want %+v, %d, %d", s, got, n, e, want, at, err)
	}
}

// left fails, unless Left answers so.
func left(t *testing.T, s State, want int) {
	t.Helper()
	if got := Left(s); got != want {
		t.Errorf("Left(%+v): %d; want %d", s, got, want)
	}
}

// refused fails, unless a state may not be, every call tells that, and leaves it as it was.
func refused(t *testing.T, s State) {
	t.Helper()
	fine(t, s, false)
	puts(t, s, s, 0, api.ErrArg)
	for _, at := range []int{math.MinInt, -1, 0, 1, s.Many - 1, s.Many, 6, math.MaxInt} {
		takes(t, s, at, s, api.ErrArg)
	}
	withdraws(t, s, s, 0, api.ErrArg)
	left(t, s, 0)
}

// The chapter's example, step by step.
func TestExamples(t *testing.T) {
	begins(t, 2, State{Mode: Putting, Many: 2}, api.OK)
	puts(t, State{Mode: Putting, Many: 2}, State{Mode: Putting, Many: 2, Done: 1}, 0, api.OK)
	puts(t, State{Mode: Putting, Many: 2, Done: 1}, State{Mode: Standing, Many: 2, Done: 2}, 1, api.OK)
	takes(t, State{Mode: Standing, Many: 2, Done: 2}, 0, State{Mode: Taking, Many: 2}, api.OK)
	withdraws(t, State{Mode: Taking, Many: 2}, State{}, 1, api.OK)
}

// The modes are those numbers.
func TestModes(t *testing.T) {
	if None != none || Putting != putting || Standing != standing || Taking != taking {
		t.Errorf("None, Putting, Standing, Taking: %d, %d, %d, %d", None, Putting, Standing, Taking)
	}
}

// P30.1: Fine: of None all is 0, and of each other mode the edges of all its fields.
func TestFine(t *testing.T) {
	for _, c := range []struct {
		mode, many, done, pick int
		want                   bool
	}{
		{0, 0, 0, 0, true}, {0, 1, 0, 0, false}, {0, 0, 1, 0, false}, {0, 0, 0, 1, false}, {0, -1, 0, 0, false}, {0, 0, -1, 0, false}, {0, 0, 0, -1, false}, {0, 1, 1, 0, false}, {0, 6, 6, 5, false}, {0, 2, 0, 1, false},
		{1, -1, 0, 0, false}, {1, 0, 0, 0, false}, {1, 1, 0, 0, true}, {1, 2, 0, 0, true}, {1, 6, 0, 0, true}, {1, 7, 0, 0, false}, {1, 8, 3, 0, false},
		{1, 1, -1, 0, false}, {1, 1, 1, 0, false}, {1, 1, 2, 0, false}, {1, 2, 1, 0, true}, {1, 2, 2, 0, false}, {1, 3, -1, 0, false}, {1, 3, 1, 0, true}, {1, 3, 2, 0, true}, {1, 3, 3, 0, false}, {1, 6, 5, 0, true}, {1, 6, 6, 0, false}, {1, 7, 6, 0, false},
		{1, 3, 1, 1, false}, {1, 3, 1, -1, false}, {1, 3, 0, 2, false}, {1, 1, 0, 1, false}, {1, 6, 5, 5, false},
		{2, -1, -1, 0, false}, {2, 0, 0, 0, false}, {2, 1, 1, 0, true}, {2, 2, 2, 0, true}, {2, 3, 3, 0, true}, {2, 4, 4, 0, true}, {2, 5, 5, 0, true}, {2, 6, 6, 0, true}, {2, 7, 7, 0, false}, {2, 8, 8, 0, false},
		{2, 1, 0, 0, false}, {2, 1, 2, 0, false}, {2, 3, 0, 0, false}, {2, 3, 2, 0, false}, {2, 3, 4, 0, false}, {2, 6, 5, 0, false}, {2, 6, 7, 0, false}, {2, 6, 0, 0, false},
		{2, 3, 3, 1, false}, {2, 3, 3, -1, false}, {2, 3, 3, 2, false}, {2, 1, 1, 1, false}, {2, 6, 6, 5, false},
		{3, -1, 0, 0, false}, {3, 0, 0, 0, false}, {3, 0, -1, 0, false}, {3, 1, 0, 0, false}, {3, 1, -1, 0, false}, {3, 1, 1, 0, false}, {3, 2, 0, 0, true}, {3, 2, 0, 1, true}, {3, 6, 0, 0, true}, {3, 7, 0, 0, false},
		{3, 2, -1, 0, false}, {3, 2, 1, 0, false}, {3, 2, 2, 0, false}, {3, 3, 1, 0, true}, {3, 3, 2, 0, false}, {3, 6, 4, 0, true}, {3, 6, 5, 0, false}, {3, 6, 6, 0, false}, {3, 6, -1, 0, false}, {3, 7, 5, 0, false},
		{3, 2, 0, -1, false}, {3, 2, 0, 2, false}, {3, 3, 0, 2, true}, {3, 3, 0, 3, false}, {3, 6, 0, 5, true}, {3, 6, 0, 6, false}, {3, 6, 4, 5, true}, {3, 6, 4, 6, false}, {3, 6, 5, 5, false}, {3, 6, 2, -1, false}, {3, 7, 0, 6, false},
		{-1, 0, 0, 0, false}, {4, 0, 0, 0, false}, {-1, 3, 1, 0, false}, {4, 3, 1, 0, false}, {-1, 3, 3, 0, false}, {4, 3, 3, 0, false}, {-2, 1, 0, 0, false}, {5, 1, 0, 0, false},
	} {
		fine(t, of(c.mode, c.many, c.done, c.pick), c.want)
	}
}

// P30.1: Fine of all states about those that may be: there are just 98 of these.
func TestFineAll(t *testing.T) {
	all := states()
	found := 0
	for mode := -3; mode <= 6; mode++ {
		for many := -3; many <= 10; many++ {
			for done := -3; done <= 10; done++ {
				for pick := -3; pick <= 10; pick++ {
					s := of(mode, many, done, pick)
					fine(t, s, slices.Contains(all, s))
					if Fine(s) {
						found++
					}
				}
			}
		}
	}
	if found != 98 {
		t.Errorf("%d states may be; want 98", found)
	}
}

// P30.1: numbers far below and far above in each field, and in two at once: no call takes such a state.
func TestWrong(t *testing.T) {
	for _, s := range wrongs() {
		refused(t, s)
	}
}

// P30.1: numbers at both ends of an int, and such as are cut short, in all four fields at once.
func TestWrongFar(t *testing.T) {
	ends := []int{math.MinInt, math.MinInt + 1, -1 << 32, -1, 0, 1, 2, 3, 6, 7, 257, 1<<32 + 1, 1<<32 + 2, math.MaxInt - 1, math.MaxInt}
	all := states()
	for _, mode := range ends {
		for _, many := range ends {
			for _, done := range ends {
				for _, pick := range ends {
					if s := of(mode, many, done, pick); !slices.Contains(all, s) {
						refused(t, s)
					}
				}
			}
		}
	}
}

// P30.1: a state of None of which not all is 0 may not be, whatever is not.
func TestNoneNotEmpty(t *testing.T) {
	for _, n := range numbers {
		if n == 0 {
			continue
		}
		refused(t, State{Many: n})
		refused(t, State{Done: n})
		refused(t, State{Pick: n})
		refused(t, State{Many: n, Done: n})
		refused(t, State{Many: n, Done: n, Pick: n})
	}
}

// P30.1: Begin: below, at and above what may be, and at both ends of an int.
func TestBegin(t *testing.T) {
	for many := 1; many <= most; many++ {
		begins(t, many, State{Mode: Putting, Many: many}, api.OK)
	}
	begins(t, 0, State{}, api.ErrRange)
	for _, many := range outside {
		begins(t, many, State{}, api.ErrRange)
	}
}

// P30.1: Put: the places, and the states, of each number of guards, written out.
func TestPut(t *testing.T) {
	puts(t, begun(1, 0), stood(1), 0, api.OK) // the last one is the first one
	puts(t, begun(2, 0), begun(2, 1), 0, api.OK)
	puts(t, begun(2, 1), stood(2), 1, api.OK)
	puts(t, begun(3, 0), begun(3, 1), 0, api.OK)
	puts(t, begun(3, 1), begun(3, 2), 1, api.OK)
	puts(t, begun(3, 2), stood(3), 2, api.OK)
	puts(t, begun(5, 3), begun(5, 4), 3, api.OK)
	puts(t, begun(5, 4), stood(5), 4, api.OK)
	puts(t, begun(6, 0), begun(6, 1), 0, api.OK)
	puts(t, begun(6, 4), begun(6, 5), 4, api.OK)
	puts(t, begun(6, 5), stood(6), 5, api.OK)
	for many := 1; many <= most; many++ {
		for done := range many - 1 {
			puts(t, begun(many, done), begun(many, done+1), done, api.OK)
		}
		puts(t, begun(many, many-1), stood(many), many-1, api.OK)
	}
}

// P30.1: Put in each mode that it is not for.
func TestPutState(t *testing.T) {
	for _, s := range slices.Concat(inMode(none), inMode(standing), inMode(taking)) {
		puts(t, s, s, 0, api.ErrState)
	}
}

// P30.2: Take: one guard, of which none is left; two; the first one, one in between and the last one.
func TestTake(t *testing.T) {
	takes(t, stood(1), 0, State{}, api.OK)
	takes(t, stood(2), 0, took(2, 0, 0), api.OK)
	takes(t, stood(2), 1, took(2, 1, 0), api.OK)
	takes(t, stood(3), 0, took(3, 0, 0), api.OK)
	takes(t, stood(3), 1, took(3, 1, 0), api.OK)
	takes(t, stood(3), 2, took(3, 2, 0), api.OK)
	takes(t, stood(6), 0, took(6, 0, 0), api.OK)
	takes(t, stood(6), 5, took(6, 5, 0), api.OK)
	for many := 2; many <= most; many++ {
		for at := range many {
			takes(t, stood(many), at, State{Mode: Taking, Many: many, Pick: at}, api.OK)
		}
	}
}

// P30.2: Take of a place below, just at how many there are, above, and at both ends of an int.
func TestTakeRange(t *testing.T) {
	for many := 1; many <= most; many++ {
		s := stood(many)
		for at := many; at <= most; at++ {
			takes(t, s, at, s, api.ErrRange)
		}
		for _, at := range slices.Concat(outside, []int{-many, -many + math.MaxInt, many + math.MinInt, many + 256, many + 1<<32 - 1}) {
			takes(t, s, at, s, api.ErrRange)
		}
	}
}

// P30.2: Take in each mode that it is not for, of places that there are and of such as there are not: the mode is told ahead of the place.
func TestTakeState(t *testing.T) {
	for _, s := range slices.Concat(inMode(none), inMode(putting), inMode(taking)) {
		for _, at := range slices.Concat(numbers, []int{s.Many - 1, s.Many, s.Pick}) {
			takes(t, s, at, s, api.ErrState)
		}
	}
}

// P30.2: Withdraw: two, of which one is; the one that is taken first, last and in between.
func TestWithdraw(t *testing.T) {
	withdraws(t, took(2, 0, 0), State{}, 1, api.OK)
	withdraws(t, took(2, 1, 0), State{}, 0, api.OK)
	withdraws(t, took(3, 0, 0), took(3, 0, 1), 2, api.OK)
	withdraws(t, took(3, 0, 1), State{}, 1, api.OK)
	withdraws(t, took(3, 1, 0), took(3, 1, 1), 2, api.OK)
	withdraws(t, took(3, 1, 1), State{}, 0, api.OK)
	withdraws(t, took(3, 2, 0), took(3, 2, 1), 1, api.OK)
	withdraws(t, took(3, 2, 1), State{}, 0, api.OK)
	withdraws(t, took(4, 2, 0), took(4, 2, 1), 3, api.OK)
	withdraws(t, took(4, 2, 1), took(4, 2, 2), 1, api.OK)
	withdraws(t, took(4, 2, 2), State{}, 0, api.OK)
	withdraws(t, took(6, 3, 0), took(6, 3, 1), 5, api.OK)
	withdraws(t, took(6, 3, 1), took(6, 3, 2), 4, api.OK)
	withdraws(t, took(6, 3, 2), took(6, 3, 3), 2, api.OK)
	withdraws(t, took(6, 3, 3), took(6, 3, 4), 1, api.OK)
	withdraws(t, took(6, 3, 4), State{}, 0, api.OK)
	withdraws(t, took(6, 0, 4), State{}, 1, api.OK)
	withdraws(t, took(6, 5, 0), took(6, 5, 1), 4, api.OK)
}

// P30.2: Withdraw of all states that are Taking.
func TestWithdrawAll(t *testing.T) {
	for _, s := range inMode(taking) {
		l := still(s)
		want := State{}
		if len(l) > 1 {
			want = took(s.Many, s.Pick, s.Done+1)
		}
		withdraws(t, s, want, l[len(l)-1], api.OK)
	}
}

// P30.2: Withdraw in each mode that it is not for.
func TestWithdrawState(t *testing.T) {
	for _, s := range slices.Concat(inMode(none), inMode(putting), inMode(standing)) {
		withdraws(t, s, s, 0, api.ErrState)
	}
}

// P30.1 and P30.2: what may not be is told ahead of the mode, and of the place.
func TestOrder(t *testing.T) {
	for _, s := range []State{
		{Mode: -1}, {Mode: 4}, {Many: 2}, of(none, 2, 2, 1),
		begun(0, 0), begun(7, 0), begun(3, 3), begun(3, -1), of(putting, 3, 1, 1),
		stood(0), stood(7), of(standing, 3, 2, 0), of(standing, 3, 3, 1),
		took(1, 0, 0), took(7, 0, 0), took(3, 0, 2), took(3, 0, -1), took(3, 3, 0), took(3, -1, 0),
	} {
		refused(t, s)
	}
}

// P30.3: Left: in each mode, and of states that may not be.
func TestLeft(t *testing.T) {
	for _, c := range []struct {
		s    State
		want int
	}{
		{State{}, 0},
		{begun(1, 0), 1}, {begun(2, 0), 2}, {begun(2, 1), 1}, {begun(3, 1), 2}, {begun(6, 0), 6}, {begun(6, 5), 1},
		{stood(1), 0}, {stood(2), 0}, {stood(6), 0},
		{took(2, 0, 0), 1}, {took(2, 1, 0), 1}, {took(3, 0, 0), 2}, {took(3, 1, 0), 2}, {took(3, 2, 0), 2}, {took(3, 1, 1), 1}, {took(6, 0, 0), 5}, {took(6, 5, 4), 1}, {took(6, 3, 2), 3},
		{begun(7, 0), 0}, {begun(0, 0), 0}, {begun(3, -1), 0}, {begun(3, 3), 0}, {of(putting, 3, 1, 1), 0},
		{stood(7), 0}, {of(standing, 3, 1, 0), 0},
		{took(1, 0, 0), 0}, {took(7, 0, 0), 0}, {took(3, 3, 0), 0}, {took(3, 0, -1), 0}, {took(3, 0, 2), 0},
		{of(none, 3, 1, 0), 0}, {of(4, 3, 1, 0), 0}, {of(-1, 3, 1, 0), 0}, {begun(math.MaxInt, math.MinInt), 0}, {took(math.MinInt, 0, 1), 0},
	} {
		left(t, c.s, c.want)
	}
}

// P30.3: Left is how often Put, or Withdraw, may be called till they answer an error: of all states that may be.
func TestLeftCounted(t *testing.T) {
	for _, s := range states() {
		many := 0
		for at := s; ; many++ {
			next, e := step(at)
			if e != api.OK {
				if at.Mode != standing && at != (State{}) {
					t.Errorf("%+v: it ends at %+v", s, at)
				}
				break
			}
			at = next
		}
		left(t, s, many)
	}
}

// step is the state behind the next one that is put in, or withdrawn, if there is one.
func step(s State) (State, api.Errno) {
	if to, _, e := Put(s); e == api.OK {
		return to, e
	}
	to, _, e := Withdraw(s)
	return to, e
}

// way goes from Begin to the end, and answers the places that were put in, and those that were withdrawn, in order. What is left goes down by 1 each time.
func way(t *testing.T, many, pick int) (in, out []int) {
	t.Helper()
	s, e := Begin(many)
	for e == api.OK && s.Mode == putting {
		ahead := Left(s)
		var at int
		s, at, e = Put(s)
		in = append(in, at)
		fine(t, s, true)
		left(t, s, ahead-1)
	}
	if e != api.OK || s != stood(many) {
		t.Fatalf("%d guards: %+v, %d; want it standing", many, s, e)
	}
	s, e = Take(s, pick)
	fine(t, s, true)
	left(t, s, many-1)
	for e == api.OK && s.Mode == taking {
		ahead := Left(s)
		var at int
		s, at, e = Withdraw(s)
		out = append(out, at)
		fine(t, s, true)
		left(t, s, ahead-1)
	}
	if e != api.OK || s != (State{}) {
		t.Fatalf("%d guards, %d taken: %+v, %d; want the empty one", many, pick, s, e)
	}
	return in, out
}

// P30.4: of all ways from Begin to the end: each place is put in once, rising, and each but the one taken is withdrawn once, falling; in as many steps as there are guards, and as many less 1.
func TestWays(t *testing.T) {
	for many := 1; many <= most; many++ {
		for pick := range many {
			in, out := way(t, many, pick)
			if !slices.Equal(in, full(many)) {
				t.Errorf("%d guards, %d taken: put in %v", many, pick, in)
			}
			if len(in)+len(out) != many+many-1 {
				t.Errorf("%d guards, %d taken: %d steps, and %d", many, pick, len(in), len(out))
			}
			if slices.Contains(out, pick) {
				t.Errorf("%d guards, %d taken: it is withdrawn: %v", many, pick, out)
			}
			slices.Reverse(out)
			if want := slices.Delete(full(many), pick, pick+1); !slices.Equal(out, want) {
				t.Errorf("%d guards, %d taken: withdrawn, from the last one on: %v; want %v", many, pick, out, want)
			}
		}
	}
}

// P30.4: all states that may be are come by from Begin, and no others: whatever is called in them, and with whichever place.
func TestReached(t *testing.T) {
	var seen []State
	var work []State
	add := func(s State) {
		if !slices.Contains(seen, s) {
			seen = append(seen, s)
			work = append(work, s)
		}
	}
	for _, many := range numbers {
		s, _ := Begin(many)
		add(s)
	}
	for len(work) > 0 {
		s := work[0]
		work = work[1:]
		in, _, _ := Put(s)
		add(in)
		out, _, _ := Withdraw(s)
		add(out)
		for _, at := range numbers {
			to, _ := Take(s, at)
			add(to)
		}
	}
	all := states()
	if len(seen) != len(all) {
		t.Errorf("%d states are come by; want %d", len(seen), len(all))
	}
	for _, s := range all {
		if !slices.Contains(seen, s) {
			t.Errorf("%+v is not come by", s)
		}
	}
}

// R3: what is answered hangs on the arguments alone: calls of other states in between change nothing.
func TestAgain(t *testing.T) {
	r := rand.New(rand.NewSource(30))
	all := slices.Concat(states(), wrongs()[:200])
	for range 5000 {
		s, at := all[r.Intn(len(all))], r.Intn(9)-1
		was := asked(s, at)
		asked(all[r.Intn(len(all))], r.Intn(9)-1)
		Begin(r.Intn(9) - 1)
		if is := asked(s, at); is != was {
			t.Fatalf("%+v, %d: %+v; it was %+v", s, at, is, was)
		}
	}
}

// answers are what all calls of a state answer.
type answers struct {
	fine               bool
	in, to, out        State
	put, drop, left    int
	inErr, toErr, oErr api.Errno
}

// asked calls them all.
func asked(s State, at int) answers {
	a := answers{fine: Fine(s), left: Left(s)}
	a.in, a.put, a.inErr = Put(s)
	a.to, a.toErr = Take(s, at)
	a.out, a.drop, a.oErr = Withdraw(s)
	return a
}
