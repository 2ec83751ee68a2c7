package proc

import (
	"math"
	"math/rand"
	"slices"
	"testing"

	"becket/api"
	"becket/frame"
)

// What the document tells: the modes, how many places a table has, the last generation, the ends of the words, and the last place of a frame.
const (
	running = 0
	waiting = 1
	falling = 2
	ended   = 3
	many    = 16
	lastGen = 65535
	low     = -1 << 31
	high    = 1<<31 - 1
	lastPC  = 64
)

// far are numbers that are none of anything that a table has: the ends of int, and such as lose their height, or their sign, when they are cut to fewer bits.
var far = []int{math.MinInt, math.MinInt + 1, math.MinInt + 3, -1 << 62, -1 << 40, -1<<32 - 1, -1 << 32, -1<<32 + 1, -1<<32 + 3, -1<<31 - 1, 1 << 31, 1<<32 - 1, 1 << 32, 1<<32 + 1, 1<<32 + 2, 1<<32 + 3, 1<<32 + 15, 1 << 40, 1 << 62, math.MaxInt - 1, math.MaxInt}

// Numbers that are no places, no modes, no generations, and no words; and any that are not 0.
var (
	noPlaces = slices.Concat(far, []int{-65536, -4096, -256, -241, -17, -16, -15, -2, -1, 16, 17, 31, 32, 63, 255, 256, 257, 4095, 4096, 65536, 65537})
	noModes  = slices.Concat(far, []int{-256, -255, -253, -4, -3, -2, -1, 4, 5, 7, 8, 255, 256, 257, 258, 259, 65536, 65537, 65539})
	noGens   = slices.Concat(far, []int{-65536, -65535, -256, -2, -1, 65536, 65537, 65541, 131071, 131072})
	noWords  = slices.Concat(far, []int{-1<<33 + 5, -1<<32 + 7, low - 2, low - 1, high + 1, high + 2, 1<<32 + 7})
	others   = slices.Concat(far, []int{-65536, -256, -7, -2, -1, 1, 2, 3, 5, 6, 7, 8, 255, 256, 511, 512, 65535, 65536})
)

// named is the handle of a place and a generation.
func named(p, gen int) int { return 4096*gen + p }

// noHandles are numbers that are no handles, or handles of no place of a table.
func noHandles() []int {
	l := slices.Concat([]int{math.MinInt, math.MinInt + 4096, -4096, -4097, -8192, -16, -1, 0, 1, 2, 3, 15, 16, 4095, 1 << 62, 1<<62 + 4096, 1<<32 + 0, 1<<32 + 4096, math.MaxInt - 4095, math.MaxInt},
		[]int{named(0, -1), named(3, -1), named(3, -5), named(0, lastGen+1), named(3, lastGen+1), named(15, lastGen+1), named(15, lastGen+2)})
	for _, gen := range []int{1, 2, 5, 255, 256, lastGen - 1, lastGen} {
		for _, slot := range []int{16, 17, 18, 19, 20, 31, 32, 255, 256, 259, 2048, 4094, 4095} {
			l = append(l, named(slot, gen))
		}
	}
	return l
}

// plain is a frame as it is at the beginning, with a word in register 0.
func plain(arg int) frame.Frame {
	var f frame.Frame
	f.Regs[0] = arg
	return f
}

// busy is a frame in which all that may be other than 0 is, with so many calls.
func busy(depth int) frame.Frame {
	f := frame.Frame{PC: 17, Bad: true, Depth: depth}
	for i := range f.Regs {
		f.Regs[i] = 1000 + 7*i
	}
	for i := range f.Words {
		f.Words[i] = -2000 - 11*i
	}
	for i := range depth {
		f.Stack[i] = 20 + 3*i
	}
	return f
}

// some are guards by which a process waits; a table takes any.
func some(n int) []api.Guard {
	var l []api.Guard
	for i := range n {
		l = append(l, api.Guard{Kind: 1 + i%6, Obj: i, Val: 5 * i, Reg: i % 8, No: i})
	}
	return l
}

// vacant is a free place.
func vacant(gen int) Proc { return Proc{Gen: gen} }

// runs is a process that runs, in the middle of its program.
func runs(gen int) Proc {
	return Proc{Gen: gen, Live: true, Prog: 3, Frame: busy(2), Mode: running, Turn: 4}
}

// waits is a process that waits by so many guards.
func waits(gen, n int) Proc {
	return Proc{Gen: gen, Live: true, Prog: 2, Frame: busy(0), Mode: waiting, Turn: 1, Guards: some(n)}
}

// falls is a process in a bucket.
func falls(gen int) Proc {
	return Proc{Gen: gen, Live: true, Prog: 7, Frame: busy(8), Mode: falling, Turn: 5}
}

// overBy is a process that has ended.
func overBy(gen, how int) Proc {
	return Proc{Gen: gen, Live: true, Prog: 1, Frame: busy(1), Mode: ended, How: how, Turn: 3}
}

// fresh is a table in which nobody has been.
func fresh() []Proc {
	return []Proc{{}, {}, {}, {}, {}, {}, {}, {}, {}, {}, {}, {}, {}, {}, {}, {}}
}

// filled is a table of the same thing at each place.
func filled(x Proc) []Proc {
	l := fresh()
	for p := range l {
		l[p] = x
	}
	return l
}

// mixed is a table with something of each kind.
func mixed() []Proc {
	return []Proc{
		vacant(lastGen), runs(1), waits(5, 1), falls(lastGen), overBy(7, 0), overBy(lastGen, 12), vacant(lastGen - 1), vacant(0),
		runs(lastGen), waits(lastGen, 6), overBy(256, 9), vacant(300), runs(255), falls(1), waits(2, 3), overBy(1, 511),
	}
}

// put is a table of its own with another thing at a place.
func put(table []Proc, p int, x Proc) []Proc {
	own := slices.Clone(table)
	own[p] = x
	return own
}

// good are tables that may be.
func good() [][]Proc {
	l := [][]Proc{fresh(), mixed()}
	for _, x := range []Proc{vacant(1), vacant(lastGen), runs(1), runs(lastGen), waits(1, 1), waits(lastGen, 6), falls(9), overBy(4, 0), overBy(lastGen, 18)} {
		l = append(l, filled(x))
		for _, p := range []int{0, 7, 15} {
			l = append(l, put(fresh(), p, x), put(mixed(), p, x))
		}
	}
	return l
}

// sameProc tells whether two places are the same: a list that is nil is an empty one.
func sameProc(a, b Proc) bool {
	return a.Gen == b.Gen && a.Live == b.Live && a.Prog == b.Prog && a.Frame == b.Frame && a.Mode == b.Mode &&
		a.How == b.How && a.Turn == b.Turn && slices.Equal(a.Guards, b.Guards)
}

// same tells whether two tables are the same.
func same(a, b []Proc) bool { return slices.EqualFunc(a, b, sameProc) }

// copied is a table in memory of its own, with its guards.
func copied(table []Proc) []Proc {
	own := slices.Clone(table)
	for p := range own {
		own[p].Guards = slices.Clone(own[p].Guards)
	}
	return own
}

// odd is what lies beside tables: a process that could be ended, found by its handle, or taken for a free place of a table that is too short.
var odd = Proc{Gen: 71, Live: true, Prog: 71, Turn: 71}

// kept is a table that lies within longer memory, as do its guards, and what fails, unless all of that is as it was.
func kept(t *testing.T, table []Proc) ([]Proc, func()) {
	t.Helper()
	memory := slices.Concat([]Proc{odd}, table, []Proc{odd, {Gen: 71}, odd})
	for p := range memory {
		l := memory[p].Guards
		memory[p].Guards = append(slices.Clone(l), api.Guard{Kind: -71}, api.Guard{Kind: -72})[:len(l)]
	}
	long := func(x Proc) []api.Guard { return x.Guards[:len(x.Guards)+2] }
	before := slices.Clone(memory)
	for p := range before {
		before[p].Guards = slices.Clone(long(before[p]))
	}
	return memory[1 : 1+len(table)], func() {
		t.Helper()
		for p, x := range memory {
			x.Guards = long(x)
			if !sameProc(x, before[p]) {
				t.Errorf("it has written to place %d of what was handed in: %+v; it was %+v", p-1, x, before[p])
			}
		}
	}
}

// spoil writes over all places of a table that was answered.
func spoil(table []Proc) {
	for p := range table {
		table[p] = Proc{Gen: -71, Prog: -71}
	}
}

// fine fails, unless Fine answers so.
func fine(t *testing.T, table []Proc, want bool) {
	t.Helper()
	own, check := kept(t, table)
	for range 2 {
		if got := Fine(own); got != want {
			t.Errorf("Fine(%+v): %v; want %v", table, got, want)
		}
	}
	check()
}

// spawns fails, unless Spawn answers so.
func spawns(t *testing.T, table []Proc, prog, arg int, want []Proc, h int, err api.Errno) {
	t.Helper()
	own, check := kept(t, table)
	for range 2 {
		got, name, e := Spawn(own, prog, arg)
		if !same(got, want) || name != h || e != err {
			t.Errorf("Spawn(%+v, %d, %d): %+v, %d, %d; want %+v, %d, %d", table, prog, arg, got, name, e, want, h, err)
		}
		if e == api.OK {
			spoil(got)
		}
	}
	check()
}

// handles fails, unless Handle answers so.
func handles(t *testing.T, table []Proc, p, want int) {
	t.Helper()
	own, check := kept(t, table)
	for range 2 {
		if got := Handle(own, p); got != want {
			t.Errorf("Handle(%+v, %d): %d; want %d", table, p, got, want)
		}
	}
	check()
}

// finds fails, unless Find answers so.
func finds(t *testing.T, table []Proc, h, want int, err api.Errno) {
	t.Helper()
	own, check := kept(t, table)
	for range 2 {
		if got, e := Find(own, h); got != want || e != err {
			t.Errorf("Find(%+v, %d): %d, %d; want %d, %d", table, h, got, e, want, err)
		}
	}
	check()
}

// ends fails, unless End answers so.
func ends(t *testing.T, table []Proc, p, how int, want []Proc, err api.Errno) {
	t.Helper()
	own, check := kept(t, table)
	for range 2 {
		got, e := End(own, p, how)
		if !same(got, want) || e != err {
			t.Errorf("End(%+v, %d, %d): %+v, %d; want %+v, %d", table, p, how, got, e, want, err)
		}
		if e == api.OK {
			spoil(got)
		}
	}
	check()
}

// reaps fails, unless Reap answers so.
func reaps(t *testing.T, table []Proc, h int, want []Proc, how int, err api.Errno) {
	t.Helper()
	own, check := kept(t, table)
	for range 2 {
		got, by, e := Reap(own, h)
		if !same(got, want) || by != how || e != err {
			t.Errorf("Reap(%+v, %d): %+v, %d, %d; want %+v, %d, %d", table, h, got, by, e, want, how, err)
		}
		if e == api.OK {
			spoil(got)
		}
	}
	check()
}

// ins fails, unless In answers so, each time in new memory.
func ins(t *testing.T, table []Proc, mode int, want ...int) {
	t.Helper()
	own, check := kept(t, table)
	for range 2 {
		got := In(own, mode)
		if !slices.Equal(got, want) {
			t.Errorf("In(%+v, %d): %v; want %v", table, mode, got, want)
		}
		clear(got)
	}
	check()
}

// lists fails, unless Handles answers so, each time in new memory.
func lists(t *testing.T, table []Proc, want ...int) {
	t.Helper()
	own, check := kept(t, table)
	for range 2 {
		got := Handles(own)
		if !slices.Equal(got, want) {
			t.Errorf("Handles(%+v): %v; want %v", table, got, want)
		}
		clear(got)
	}
	check()
}

// refused fails, unless a table may not be, and every call tells that, ahead of all else, and leaves it as it was.
func refused(t *testing.T, table []Proc) {
	t.Helper()
	fine(t, table, false)
	spawns(t, table, 1, 5, table, 0, api.ErrArg)
	spawns(t, table, 1, high+1, table, 0, api.ErrArg)
	lists(t, table)
	for _, mode := range []int{-1, running, waiting, falling, ended, 4} {
		ins(t, table, mode)
	}
	for _, p := range []int{-1, 0, 1, 7, 15, 16} {
		handles(t, table, p, 0)
		ends(t, table, p, 9, table, api.ErrArg)
	}
	for _, h := range []int{-1, 0, named(16, 1), named(0, 1), named(7, 5), named(15, 1), named(4, 7), named(5, lastGen)} {
		finds(t, table, h, 0, api.ErrArg)
		reaps(t, table, h, table, 0, api.ErrArg)
	}
}

// The chapter's example, step by step.
func TestExamples(t *testing.T) {
	spawns(t, New(), 0, 0, put(fresh(), 0, Proc{Gen: 1, Live: true}), 4096, api.OK)
	table, h, _ := Spawn(New(), 0, 0)
	ends(t, table, 0, 0, put(fresh(), 0, Proc{Gen: 1, Live: true, Mode: ended}), api.OK)
	table, _ = End(table, 0, 0)
	reaps(t, table, h, put(fresh(), 0, vacant(1)), 0, api.OK)
	table, _, _ = Reap(table, h)
	spawns(t, table, 0, 0, put(fresh(), 0, Proc{Gen: 2, Live: true}), 8192, api.OK)
}

// The modes are those numbers.
func TestModes(t *testing.T) {
	if Runs != running || Waits != waiting || Falls != falling || Over != ended {
		t.Errorf("Runs, Waits, Falls, Over: %d, %d, %d, %d", Runs, Waits, Falls, Over)
	}
}

// P31.1: New: sixteen free places, in new memory each time.
func TestNew(t *testing.T) {
	for range 2 {
		table := New()
		if !same(table, fresh()) {
			t.Errorf("New: %+v", table)
		}
		fine(t, table, true)
		lists(t, table)
		for mode := range 4 {
			ins(t, table, mode)
		}
		for p := range many {
			handles(t, table, p, 0)
		}
		spoil(table)
	}
}

// P31.1: Fine of tables that may be.
func TestFine(t *testing.T) {
	for _, table := range good() {
		fine(t, table, true)
	}
}

// P31.1: Fine of all generations, of a free place and of a process in each mode.
func TestFineGens(t *testing.T) {
	for _, p := range []int{0, 9, 15} {
		table := fresh()
		for gen := -3; gen <= lastGen+3; gen++ {
			for _, x := range []Proc{vacant(gen), {Gen: gen, Live: true}, {Gen: gen, Live: true, Mode: waiting, Guards: some(1)}, {Gen: gen, Live: true, Mode: ended}} {
				least := 0
				if x.Live {
					least = 1
				}
				table[p] = x
				if want := gen >= least && gen <= lastGen; Fine(table) != want {
					t.Fatalf("Fine with %+v at %d: %v", x, p, !want)
				}
			}
		}
	}
}

// P31.1: tables of fewer and of more places than sixteen, and none at all.
func TestLengths(t *testing.T) {
	refused(t, nil)
	refused(t, []Proc{})
	for _, x := range []Proc{vacant(0), vacant(5), runs(1), waits(5, 2), overBy(7, 3)} {
		for _, n := range []int{1, 2, 7, 8, 14, 15, 17, 18, 31, 32, 33, 256, 272} {
			refused(t, slices.Repeat([]Proc{x}, n))
		}
	}
	refused(t, mixed()[:15])
	refused(t, append(mixed(), vacant(0)))
}

// everywhere fails, unless no table with such a place may be, wherever that is, and whatever else there is.
func everywhere(t *testing.T, x Proc) {
	t.Helper()
	for p := range many {
		fine(t, put(fresh(), p, x), false)
		fine(t, put(mixed(), p, x), false)
	}
	refused(t, put(mixed(), 0, x))
	refused(t, put(filled(runs(1)), 7, x))
	refused(t, put(fresh(), 15, x))
}

// P31.1: generations below 0 and above the last one, and that of a process for which there has been none.
func TestWrongGens(t *testing.T) {
	for _, gen := range noGens {
		everywhere(t, vacant(gen))
		for _, x := range []Proc{runs(gen), waits(gen, 1), falls(gen), overBy(gen, 0)} {
			fine(t, put(fresh(), 3, x), false)
			fine(t, put(mixed(), 15, x), false)
		}
	}
	for _, x := range []Proc{runs(0), waits(0, 1), falls(0), overBy(0, 0), {Live: true}} {
		everywhere(t, x)
	}
}

// touched are all places that differ from one in one number, which is n, or in one truth, of the frame.
func touched(x Proc, n int) []Proc {
	var l []Proc
	by := func(change func(f *frame.Frame)) {
		y := x
		change(&y.Frame)
		l = append(l, y)
	}
	by(func(f *frame.Frame) { f.PC = n })
	by(func(f *frame.Frame) { f.Bad = !f.Bad })
	by(func(f *frame.Frame) { f.Depth = n })
	for i := range x.Frame.Regs {
		by(func(f *frame.Frame) { f.Regs[i] = n })
	}
	for i := range x.Frame.Words {
		by(func(f *frame.Frame) { f.Words[i] = n })
	}
	for i := range x.Frame.Stack {
		by(func(f *frame.Frame) { f.Stack[i] = n })
	}
	return l
}

// P31.1: a place that is free with a field that is not 0, field by field, or with guards.
func TestFreeNotEmpty(t *testing.T) {
	for _, gen := range []int{0, 1, 300, lastGen} {
		for _, n := range others {
			l := touched(vacant(gen), n)
			l = append(l, Proc{Gen: gen, Prog: n}, Proc{Gen: gen, Mode: n}, Proc{Gen: gen, How: n}, Proc{Gen: gen, Turn: n})
			for i, x := range l {
				fine(t, put(fresh(), i%many, x), false)
				fine(t, put(mixed(), (i+n%3+3)%many, x), false)
			}
		}
		for _, x := range touched(vacant(gen), 1) {
			everywhere(t, x)
		}
		for _, x := range []Proc{
			{Prog: 1}, {Prog: -1}, {Mode: waiting}, {Mode: falling}, {Mode: ended}, {Mode: 4}, {How: 12}, {Turn: 1}, {Turn: -1}, {Frame: plain(7)}, {Frame: busy(3)},
			{Guards: some(1)}, {Guards: some(6)}, {Guards: []api.Guard{{}}}, {Mode: waiting, Guards: some(1)}, {Prog: 1, How: -1}, {Prog: 2, Turn: -2}, {How: 3, Turn: 3},
		} {
			x.Gen = gen
			everywhere(t, x)
		}
	}
	for _, x := range []Proc{runs(4), waits(4, 1), falls(4), overBy(4, 0)} {
		x.Live = false
		everywhere(t, x)
	}
}

// P31.1: modes below 0 and above 3, with guards and without.
func TestWrongModes(t *testing.T) {
	for _, mode := range noModes {
		for _, x := range []Proc{runs(1), waits(1, 1), overBy(1, 0)} {
			x.Mode = mode
			for p := range many {
				fine(t, put(mixed(), p, x), false)
			}
		}
	}
	for _, mode := range []int{-1, 4, 256, 257, math.MinInt, math.MaxInt} {
		for _, x := range []Proc{runs(1), waits(1, 1)} {
			x.Mode = mode
			everywhere(t, x)
		}
	}
}

// P31.1: a frame that may not be, of a process in each mode.
func TestWrongFrames(t *testing.T) {
	for _, x := range []Proc{runs(1), waits(1, 2), falls(lastGen), overBy(3, 0), overBy(3, 12)} {
		for _, n := range noWords {
			for i, y := range touched(x, n) {
				fine(t, put(mixed(), i%many, y), y.Frame.Bad != x.Frame.Bad) // what is bad or not may be both
			}
		}
		for _, f := range []frame.Frame{{PC: -1}, {PC: lastPC + 1}, {Depth: -1}, {Depth: 9}, {Depth: 1, Stack: [8]int{-1}}, {Depth: 1, Stack: [8]int{lastPC + 1}}, {Stack: [8]int{1}}, {Depth: 1, Stack: [8]int{0, 1}}, {Depth: 7, Stack: [8]int{7: 1}}, plain(high + 1), plain(low - 1)} {
			x.Frame = f
			everywhere(t, x)
		}
		for _, f := range []frame.Frame{{}, {PC: lastPC}, {Bad: true}, {Depth: 8}, {Depth: 1, Stack: [8]int{lastPC}}, {Depth: 8, Stack: [8]int{7: 1}}, plain(high), plain(low), busy(8)} {
			x.Frame = f
			fine(t, put(mixed(), 0, x), true)
		}
	}
}

// P31.1: guards where it does not wait, and none where it does, be these nil or just empty.
func TestWrongGuards(t *testing.T) {
	for _, x := range []Proc{runs(1), falls(1), overBy(1, 0), overBy(1, 12), {Gen: 1, Live: true}} {
		for _, l := range [][]api.Guard{some(1), some(2), some(6), {{}}, make([]api.Guard, 7)} {
			x.Guards = l
			everywhere(t, x)
		}
		x.Guards = []api.Guard{}
		fine(t, put(mixed(), 3, x), true)
	}
	everywhere(t, waits(1, 0))
	x := waits(1, 0)
	x.Guards = []api.Guard{}
	everywhere(t, x)
	x = vacant(3)
	x.Guards = []api.Guard{}
	fine(t, put(mixed(), 3, x), true)
	for n := 1; n <= 9; n++ {
		fine(t, put(mixed(), 3, waits(1, n)), true)
	}
	x = waits(1, 0)
	x.Guards = []api.Guard{{Kind: -9, Val: math.MaxInt}} // which guards may be, another layer tells
	fine(t, put(mixed(), 3, x), true)
}

// P31.1: of a process that is there Prog, How and Turn are not asked for.
func TestFineAnyNumbers(t *testing.T) {
	for _, n := range append(others, 0) {
		for _, x := range []Proc{runs(1), waits(1, 1), falls(1), overBy(1, 0)} {
			a, b, c := x, x, x
			a.Prog, b.How, c.Turn = n, n, n
			for _, y := range []Proc{a, b, c} {
				fine(t, put(fresh(), 15, y), true)
			}
		}
	}
}

// P31.1: Spawn: the least free place; what the process is that was just made; and that nothing else has changed.
func TestSpawn(t *testing.T) {
	for _, c := range []struct{ prog, arg int }{{0, 0}, {1, 7}, {7, -7}, {3, low}, {3, high}, {3, low + 1}, {3, high - 1}, {-1, 5}, {8, 5}, {math.MinInt, 5}, {math.MaxInt, 5}} {
		made := Proc{Live: true, Prog: c.prog, Frame: plain(c.arg)}
		for _, gen := range []int{0, 1, 2, 255, 256, 4095, 4096, lastGen - 2, lastGen - 1} {
			made.Gen = gen + 1
			spawns(t, filled(vacant(gen)), c.prog, c.arg, put(filled(vacant(gen)), 0, made), named(0, gen+1), api.OK)
			for p := range many {
				for _, x := range []Proc{runs(9), waits(9, 2), falls(9), overBy(9, 12), vacant(lastGen)} {
					full := filled(x)
					spawns(t, put(full, p, vacant(gen)), c.prog, c.arg, put(full, p, made), named(p, gen+1), api.OK)
				}
			}
		}
	}
	made := Proc{Gen: lastGen, Live: true, Prog: 4, Frame: plain(-3)}
	spawns(t, mixed(), 4, -3, put(mixed(), 6, made), named(6, lastGen), api.OK)
	made.Gen = 1
	spawns(t, put(mixed(), 6, runs(8)), 4, -3, put(put(mixed(), 6, runs(8)), 7, made), named(7, 1), api.OK)
}

// P31.1: Spawn: of two free places it is the first one, whichever generations these have, as long as they are not the last one.
func TestSpawnLeast(t *testing.T) {
	gens := []int{0, 1, 9, lastGen - 1, lastGen}
	for p := range many {
		for other := p + 1; other < many; other++ {
			for _, a := range gens {
				for _, b := range gens {
					table := put(put(filled(runs(2)), p, vacant(a)), other, vacant(b))
					at, gen := p, a
					if a == lastGen {
						at, gen = other, b
					}
					if gen == lastGen {
						spawns(t, table, 1, 2, table, 0, api.ErrFull)
						continue
					}
					spawns(t, table, 1, 2, put(table, at, Proc{Gen: gen + 1, Live: true, Prog: 1, Frame: plain(2)}), named(at, gen+1), api.OK)
				}
			}
		}
	}
}

// P31.1: Spawn: sixteen of them fill a table, place by place; there is no room for another one.
func TestSpawnAll(t *testing.T) {
	table, want := New(), fresh()
	for p := range many {
		var h int
		var e api.Errno
		want[p] = Proc{Gen: 1, Live: true, Prog: p % 8, Frame: plain(100 * p)}
		table, h, e = Spawn(table, p%8, 100*p)
		if h != 4096+p || e != api.OK || !same(table, want) {
			t.Fatalf("Spawn %d: %+v, %d, %d", p, table, h, e)
		}
	}
	spawns(t, table, 0, 0, table, 0, api.ErrFull)
}

// P31.1: Spawn with no room: all places are taken, in each mode, or have had their last generation.
func TestSpawnFull(t *testing.T) {
	for _, x := range []Proc{runs(1), runs(lastGen), waits(1, 1), falls(1), overBy(1, 0), overBy(lastGen, 12), vacant(lastGen)} {
		table := filled(x)
		spawns(t, table, 0, 0, table, 0, api.ErrFull)
		for _, y := range []Proc{runs(5), overBy(5, 1), vacant(lastGen)} {
			for p := range many {
				spawns(t, put(table, p, y), 0, 0, put(table, p, y), 0, api.ErrFull)
			}
		}
	}
}

// P31.1: Spawn of what is no word, at both ends; and that this is told ahead of a full table.
func TestSpawnRange(t *testing.T) {
	for _, arg := range noWords {
		for _, table := range [][]Proc{fresh(), mixed(), filled(runs(1)), filled(vacant(lastGen))} {
			spawns(t, table, 0, arg, table, 0, api.ErrRange)
		}
	}
	for _, arg := range []int{low, high} {
		spawns(t, filled(runs(1)), 0, arg, filled(runs(1)), 0, api.ErrFull)
	}
}

// P31.2: Handle: of processes in each mode, at each place; of free places, and of such as there are not.
func TestHandle(t *testing.T) {
	for p := range many {
		for _, gen := range []int{1, 2, 3, 255, 256, 4095, 4096, lastGen - 1, lastGen} {
			for _, x := range []Proc{runs(gen), waits(gen, 1), falls(gen), overBy(gen, 0), overBy(gen, 12)} {
				handles(t, put(fresh(), p, x), p, named(p, gen))
				handles(t, put(mixed(), p, x), p, named(p, gen))
			}
			handles(t, put(mixed(), p, vacant(gen)), p, 0)
		}
		handles(t, put(mixed(), p, vacant(0)), p, 0)
	}
	for p, want := range []int{0, 4097, named(2, 5), named(3, lastGen), named(4, 7), named(5, lastGen), 0, 0, named(8, lastGen), named(9, lastGen), named(10, 256), 0, named(12, 255), 4109, named(14, 2), 4111} {
		handles(t, mixed(), p, want)
	}
	for _, p := range noPlaces {
		for _, table := range [][]Proc{fresh(), mixed(), filled(runs(1)), filled(runs(lastGen))} {
			handles(t, table, p, 0)
		}
	}
}

// P31.2: Find: of processes in each mode, at each place, by their handles.
func TestFind(t *testing.T) {
	for p := range many {
		for _, gen := range []int{1, 2, 3, 255, 256, 4095, 4096, lastGen - 1, lastGen} {
			for _, x := range []Proc{runs(gen), waits(gen, 1), falls(gen), overBy(gen, 0), overBy(gen, 12)} {
				finds(t, put(fresh(), p, x), named(p, gen), p, api.OK)
				finds(t, filled(x), named(p, gen), p, api.OK)
			}
		}
	}
}

// P31.2: Find: of generations ahead of the one that is there, and behind it, and of free places, be the handle that of the process that was there last, or one that is yet to come.
func TestFindStale(t *testing.T) {
	gens := []int{1, 2, 3, 4, 255, 256, 257, 4096, lastGen - 2, lastGen - 1, lastGen}
	for p := range many {
		for _, gen := range gens {
			for _, asked := range gens {
				if asked != gen {
					for _, x := range []Proc{runs(gen), waits(gen, 1), falls(gen), overBy(gen, 0)} {
						finds(t, filled(x), named(p, asked), 0, api.ErrStale)
					}
				}
				finds(t, put(filled(runs(asked)), p, vacant(gen)), named(p, asked), 0, api.ErrStale)
			}
			finds(t, put(filled(runs(gen)), p, vacant(0)), named(p, gen), 0, api.ErrStale)
			finds(t, fresh(), named(p, gen), 0, api.ErrStale)
		}
	}
}

// P31.2: Find: of what is no handle, and of handles of no place.
func TestFindRange(t *testing.T) {
	for _, h := range noHandles() {
		for _, table := range [][]Proc{fresh(), mixed(), filled(runs(1)), filled(runs(lastGen)), filled(vacant(lastGen)), filled(overBy(5, 0))} {
			finds(t, table, h, 0, api.ErrRange)
		}
	}
}

// P31.2: Find of all handles up to those of a generation of a table of three generations.
func TestFindAll(t *testing.T) {
	table := fresh()
	for p := range table {
		table[p] = runs(1 + p%3)
	}
	for h := -5000; h < 4*4096; h++ {
		p, gen := h%4096, h/4096
		want, err := 0, api.ErrRange
		if h >= 4096 && p < many {
			err = api.ErrStale
			if gen == 1+p%3 {
				want, err = p, api.OK
			}
		}
		if got, e := Find(table, h); got != want || e != err {
			t.Fatalf("Find of %d: %d, %d; want %d, %d", h, got, e, want, err)
		}
	}
}

// P31.3: End: it is Over, by that, and all else of it is as it was.
func TestEnd(t *testing.T) {
	for p := range many {
		for _, how := range append(others, 0) {
			for _, x := range []Proc{runs(1), runs(lastGen), {Gen: 3, Live: true}, {Gen: 3, Live: true, Prog: 7, Frame: plain(-1), Turn: 5}} {
				want := x
				want.Mode, want.How = ended, how
				ends(t, put(fresh(), p, x), p, how, put(fresh(), p, want), api.OK)
				ends(t, put(mixed(), p, x), p, how, put(mixed(), p, want), api.OK)
			}
		}
		x := runs(4)
		x.How, x.Guards = 9, []api.Guard{} // what it was to end by is not asked for
		want := overBy(4, 0)
		want.Prog, want.Frame, want.Turn = x.Prog, x.Frame, x.Turn
		ends(t, put(mixed(), p, x), p, 0, put(mixed(), p, want), api.OK)
	}
}

// P31.3: End of a place that there is not, or that is free.
func TestEndRange(t *testing.T) {
	for _, p := range noPlaces {
		for _, table := range [][]Proc{fresh(), mixed(), filled(runs(1)), filled(overBy(1, 0))} {
			ends(t, table, p, 9, table, api.ErrRange)
		}
	}
	for p := range many {
		for _, gen := range []int{0, 1, lastGen} {
			table := put(filled(runs(1)), p, vacant(gen))
			ends(t, table, p, 9, table, api.ErrRange)
		}
	}
}

// P31.3: End of one that does not run, in each mode.
func TestEndState(t *testing.T) {
	for p := range many {
		for _, x := range []Proc{waits(1, 1), waits(lastGen, 6), falls(1), overBy(1, 0), overBy(1, 12)} {
			table := put(filled(runs(1)), p, x)
			ends(t, table, p, 0, table, api.ErrState)
			ends(t, table, p, 9, table, api.ErrState)
		}
	}
}

// P31.3: Reap: the place is free, of the generation that it had; how it ended.
func TestReap(t *testing.T) {
	for p := range many {
		for _, how := range append(others, 0) {
			for _, gen := range []int{1, 2, 255, 256, lastGen - 1, lastGen} {
				x := overBy(gen, how)
				reaps(t, put(fresh(), p, x), named(p, gen), put(fresh(), p, vacant(gen)), how, api.OK)
				reaps(t, put(mixed(), p, x), named(p, gen), put(mixed(), p, vacant(gen)), how, api.OK)
			}
		}
		reaps(t, put(mixed(), p, Proc{Gen: 6, Live: true, Mode: ended}), named(p, 6), put(mixed(), p, vacant(6)), 0, api.OK)
	}
}

// P31.3: Reap: Find's errors.
func TestReapErrors(t *testing.T) {
	for _, h := range noHandles() {
		for _, table := range [][]Proc{fresh(), mixed(), filled(overBy(1, 4)), filled(overBy(lastGen, 4)), filled(runs(1))} {
			reaps(t, table, h, table, 0, api.ErrRange)
		}
	}
	gens := []int{1, 2, 3, 256, lastGen - 1, lastGen}
	for p := range many {
		for _, gen := range gens {
			for _, asked := range gens {
				if asked != gen {
					for _, x := range []Proc{overBy(gen, 4), runs(gen), waits(gen, 1), falls(gen)} { // that it is not there is told ahead of how it is
						table := filled(x)
						reaps(t, table, named(p, asked), table, 0, api.ErrStale)
					}
				}
				table := put(filled(overBy(asked, 4)), p, vacant(gen))
				reaps(t, table, named(p, asked), table, 0, api.ErrStale)
			}
			reaps(t, fresh(), named(p, gen), fresh(), 0, api.ErrStale)
		}
	}
}

// P31.3: Reap of one that is not Over, in each mode, whatever its How is.
func TestReapState(t *testing.T) {
	for p := range many {
		for _, gen := range []int{1, 2, lastGen} {
			for _, x := range []Proc{runs(gen), waits(gen, 1), falls(gen)} {
				for _, how := range []int{0, 12} {
					x.How = how
					table := put(filled(overBy(gen, 4)), p, x)
					reaps(t, table, named(p, gen), table, 0, api.ErrState)
				}
			}
		}
	}
}

// P31.4: In: each mode, in tables of one kind, of all kinds, and of one process alone.
func TestIn(t *testing.T) {
	ins(t, mixed(), running, 1, 8, 12)
	ins(t, mixed(), waiting, 2, 9, 14)
	ins(t, mixed(), falling, 3, 13)
	ins(t, mixed(), ended, 4, 5, 10, 15)
	everybody := []int{0, 1, 2, 3, 4, 5, 6, 7, 8, 9, 10, 11, 12, 13, 14, 15}
	for mode, x := range []Proc{runs(2), waits(2, 2), falls(2), overBy(2, 2)} {
		for asked := range 4 {
			if asked == mode {
				ins(t, filled(x), asked, everybody...)
			} else {
				ins(t, filled(x), asked)
			}
			for p := range many {
				if asked == mode {
					ins(t, put(fresh(), p, x), asked, p)
				} else {
					ins(t, put(fresh(), p, x), asked)
				}
			}
		}
	}
	for asked := range 4 {
		ins(t, fresh(), asked) // what is free is in no mode
		ins(t, filled(vacant(lastGen)), asked)
	}
}

// P31.4: In of modes that there are not.
func TestInNone(t *testing.T) {
	for _, mode := range noModes {
		for _, table := range [][]Proc{fresh(), mixed(), filled(runs(1)), filled(waits(1, 1)), filled(falls(1)), filled(overBy(1, 0))} {
			ins(t, table, mode)
		}
	}
}

// P31.4: Handles: of all that are not Over, by how they ended or not, place by place.
func TestHandles(t *testing.T) {
	lists(t, mixed(), 4097, named(2, 5), named(3, lastGen), named(8, lastGen), named(9, lastGen), named(12, 255), named(13, 1), named(14, 2))
	lists(t, fresh())
	lists(t, filled(vacant(lastGen)))
	lists(t, filled(overBy(1, 0)))
	lists(t, filled(overBy(1, 12)))
	for _, x := range []Proc{runs(3), waits(3, 1), falls(3)} {
		var all []int
		for p := range many {
			all = append(all, named(p, 3))
			lists(t, put(fresh(), p, x), named(p, 3))
			lists(t, put(filled(overBy(3, 0)), p, x), named(p, 3))
		}
		lists(t, filled(x), all...)
		for p := range many {
			lists(t, put(filled(x), p, overBy(3, 0)), slices.Delete(slices.Clone(all), p, p+1)...)
			lists(t, put(filled(x), p, vacant(3)), slices.Delete(slices.Clone(all), p, p+1)...)
		}
		x.How = 12
		lists(t, put(fresh(), 4, x), named(4, 3))
	}
	rising := fresh()
	for p := range many {
		rising[p] = runs(many - p)
	}
	lists(t, rising, named(0, 16), named(1, 15), named(2, 14), named(3, 13), named(4, 12), named(5, 11), named(6, 10), named(7, 9), named(8, 8), named(9, 7), named(10, 6), named(11, 5), named(12, 4), named(13, 3), named(14, 2), named(15, 1))
}

// P31.5: a place from its first to its last generation: each handle is another one, found by itself alone; then the place behind it is the one to be taken.
func TestWear(t *testing.T) {
	table := New()
	for gen := 1; gen <= lastGen; gen++ {
		var h, how int
		var e api.Errno
		if table, h, e = Spawn(table, 1, 5); h != 4096*gen || e != api.OK {
			t.Fatalf("generation %d: %d, %d", gen, h, e)
		}
		if p, e := Find(table, h); p != 0 || e != api.OK {
			t.Fatalf("generation %d: found at %d, %d", gen, p, e)
		}
		if table, e = End(table, 0, gen); e != api.OK {
			t.Fatalf("generation %d: End: %d", gen, e)
		}
		if table, how, e = Reap(table, h); how != gen || e != api.OK {
			t.Fatalf("generation %d: Reap: %d, %d", gen, how, e)
		}
		if _, e := Find(table, h); e != api.ErrStale {
			t.Fatalf("generation %d: found behind Reap: %d", gen, e)
		}
	}
	spawns(t, table, 1, 5, put(table, 1, Proc{Gen: 1, Live: true, Prog: 1, Frame: plain(5)}), 4097, api.OK)
	table = put(filled(vacant(lastGen)), 15, vacant(lastGen-1))
	table, h, e := Spawn(table, 0, 0)
	if h != named(15, lastGen) || e != api.OK {
		t.Fatalf("the last one of all: %d, %d", h, e)
	}
	table, _ = End(table, 15, 0)
	table, _, _ = Reap(table, h)
	spawns(t, table, 0, 0, filled(vacant(lastGen)), 0, api.ErrFull)
}

// P31.2 and P31.5: a place that is free again: its old handle finds nothing, its new one finds who is there now.
func TestAgainTaken(t *testing.T) {
	table, first, _ := Spawn(New(), 0, 1)
	table, second, _ := Spawn(table, 0, 2)
	table, _ = End(table, 0, 12)
	finds(t, table, first, 0, api.OK) // till it is reaped
	table, _, _ = Reap(table, first)
	finds(t, table, first, 0, api.ErrStale)
	table, third, _ := Spawn(table, 0, 3)
	if first != 4096 || second != 4097 || third != 8192 {
		t.Fatalf("%d, %d, %d", first, second, third)
	}
	finds(t, table, first, 0, api.ErrStale)
	finds(t, table, second, 1, api.OK)
	finds(t, table, third, 0, api.OK)
	reaps(t, table, first, table, 0, api.ErrStale)
	lists(t, table, third, second)
}

// being is what is known of a process that is there.
type being struct{ place, prog, arg, mode, how int }

// world is a table, and a second reading of all that was done to it: who is there, by their handles, all handles that were given, and how many generations each place has had.
type world struct {
	table []Proc
	there map[int]being
	given []int
	gens  [many]int
}

// worldOf is a world of a table of free places of these generations.
func worldOf(gens [many]int) *world {
	w := &world{table: fresh(), there: map[int]being{}, gens: gens}
	for p, gen := range gens {
		w.table[p] = vacant(gen)
	}
	return w
}

// twin is the same world, for another way to go on.
func (w *world) twin() *world {
	to := &world{table: copied(w.table), there: map[int]being{}, given: slices.Clone(w.given), gens: w.gens}
	for h, b := range w.there {
		to.there[h] = b
	}
	return to
}

// at is the handle of who is at a place, or 0.
func (w *world) at(p int) int {
	for h, b := range w.there {
		if b.place == p {
			return h
		}
	}
	return 0
}

// spawn does so, and fails, unless the answer is right.
func (w *world) spawn(t *testing.T, prog, arg int) {
	t.Helper()
	at := -1
	for p := many - 1; p >= 0; p-- {
		if w.at(p) == 0 && w.gens[p] != lastGen {
			at = p
		}
	}
	table, h, e := Spawn(w.table, prog, arg)
	if at < 0 {
		if h != 0 || e != api.ErrFull || !same(table, w.table) {
			t.Fatalf("Spawn without room: %d, %d", h, e)
		}
		return
	}
	w.gens[at]++
	if h != named(at, w.gens[at]) || e != api.OK || slices.Contains(w.given, h) {
		t.Fatalf("Spawn: %d, %d; want %d; given: %v", h, e, named(at, w.gens[at]), w.given)
	}
	w.table, w.given = table, append(w.given, h)
	w.there[h] = being{place: at, prog: prog, arg: arg}
}

// end does so, and fails, unless the answer is right.
func (w *world) end(t *testing.T, p, how int) {
	t.Helper()
	h := w.at(p)
	b := w.there[h]
	table, e := End(w.table, p, how)
	switch {
	case h == 0:
		if e != api.ErrRange || !same(table, w.table) {
			t.Fatalf("End of nobody, at %d: %d", p, e)
		}
		return
	case b.mode != running:
		if e != api.ErrState || !same(table, w.table) {
			t.Fatalf("End in mode %d: %d", b.mode, e)
		}
		return
	case e != api.OK:
		t.Fatalf("End: %d", e)
	}
	b.mode, b.how = ended, how
	w.table, w.there[h] = table, b
}

// reap does so, and fails, unless the answer is right.
func (w *world) reap(t *testing.T, h int) {
	t.Helper()
	b, is := w.there[h]
	table, how, e := Reap(w.table, h)
	switch {
	case !is:
		if how != 0 || e != api.ErrStale || !same(table, w.table) {
			t.Fatalf("Reap of %d, who has gone: %d, %d", h, how, e)
		}
		return
	case b.mode != ended:
		if how != 0 || e != api.ErrState || !same(table, w.table) {
			t.Fatalf("Reap in mode %d: %d, %d", b.mode, how, e)
		}
		return
	case how != b.how || e != api.OK:
		t.Fatalf("Reap: %d, %d; want %d", how, e, b.how)
	}
	w.table = table
	delete(w.there, h)
}

// turn has a process that has not ended be in another mode, as those do who use the table.
func (w *world) turn(p, mode int) {
	h := w.at(p)
	b := w.there[h]
	if h == 0 || b.mode == ended {
		return
	}
	b.mode = mode
	w.table, w.there[h] = slices.Clone(w.table), b
	w.table[p].Mode, w.table[p].Guards = mode, nil
	if mode == waiting {
		w.table[p].Guards = some(2)
	}
}

// check fails, unless the table is what it is to be, and all questions are answered so.
func (w *world) check(t *testing.T) {
	t.Helper()
	want, modes := fresh(), make([][]int, 4)
	var open []int
	for p := range many {
		want[p] = vacant(w.gens[p])
		if h := w.at(p); h != 0 {
			b := w.there[h]
			want[p] = Proc{Gen: w.gens[p], Live: true, Prog: b.prog, Frame: plain(b.arg), Mode: b.mode, How: b.how}
			if b.mode == waiting {
				want[p].Guards = some(2)
			}
			modes[b.mode] = append(modes[b.mode], p)
			if b.mode != ended {
				open = append(open, h)
			}
		}
		if got := Handle(w.table, p); got != w.at(p) {
			t.Fatalf("Handle(%d): %d; want %d", p, got, w.at(p))
		}
	}
	if !Fine(w.table) || !same(w.table, want) {
		t.Fatalf("%+v; want %+v", w.table, want)
	}
	if got := Handles(w.table); !slices.Equal(got, open) {
		t.Fatalf("Handles: %v; want %v", got, open)
	}
	for mode, l := range modes {
		if got := In(w.table, mode); !slices.Equal(got, l) {
			t.Fatalf("In(%d): %v; want %v", mode, got, l)
		}
	}
	w.seek(t)
}

// seek fails, unless just those of all who ever were are found that are there.
func (w *world) seek(t *testing.T) {
	t.Helper()
	for _, h := range w.given {
		b, is := w.there[h]
		p, e := Find(w.table, h)
		if is && (p != b.place || e != api.OK) || !is && (p != 0 || e != api.ErrStale) {
			t.Fatalf("Find(%d): %d, %d; want it there: %v", h, p, e, is)
		}
	}
}

// P31.5: all runs of five calls, in a table in which nobody has been, and in one that has two places left, which have had nearly all of their generations.
func TestAllRuns(t *testing.T) {
	deeds := []func(w *world){
		func(w *world) { w.spawn(t, len(w.given), -len(w.given)) },
		func(w *world) { w.end(t, 0, len(w.given)) },
		func(w *world) { w.end(t, 1, 12) },
		func(w *world) { w.reap(t, named(0, max(w.gens[0], 1))) },
		func(w *world) { w.reap(t, named(1, max(w.gens[1], 1))) },
		func(w *world) { w.reap(t, named(0, 1)) },
		func(w *world) { w.turn(0, 1+len(w.given)%2) },
	}
	var on func(w *world, left int)
	on = func(w *world, left int) {
		w.check(t)
		if left == 0 {
			return
		}
		for _, deed := range deeds {
			next := w.twin()
			deed(next)
			on(next, left-1)
		}
	}
	on(worldOf([many]int{}), 5)
	worn := [many]int{lastGen - 2, lastGen - 1}
	for p := 2; p < many; p++ {
		worn[p] = lastGen
	}
	on(worldOf(worn), 5)
}

// P31.5: long runs by chance, held against all that was done: in a table in which nobody has been, and in such as wear out.
func TestLongRuns(t *testing.T) {
	r := rand.New(rand.NewSource(31))
	for _, from := range []int{0, 0, 255, lastGen - 40, lastGen - 9, lastGen - 3, lastGen} {
		var gens [many]int
		for p := range gens {
			gens[p] = from + min(r.Intn(3), lastGen-from)
		}
		w := worldOf(gens)
		busyness := 3 + r.Intn(6) // how many in ten are spawned
		for range 2500 {
			w.chance(t, r, busyness)
			w.check(t)
		}
	}
}

// chance does one thing by chance.
func (w *world) chance(t *testing.T, r *rand.Rand, busyness int) {
	t.Helper()
	p := r.Intn(many)
	switch n := r.Intn(22); {
	case n < busyness:
		w.spawn(t, r.Intn(8), int(int32(r.Uint32())))
	case n < 12:
		w.end(t, p, r.Intn(20))
	case n < 16 && w.at(p) != 0:
		w.reap(t, w.at(p))
	case n < 18 && len(w.given) > 0:
		w.reap(t, w.given[r.Intn(len(w.given))])
	case n < 20:
		w.turn(p, running)
	default:
		w.turn(p, r.Intn(3))
	}
}

// R3 and R4: what was answered earlier stays as it was, whatever is made of it.
func TestEarlier(t *testing.T) {
	r := rand.New(rand.NewSource(131))
	w := worldOf([many]int{})
	var tables, were [][]Proc
	for range 600 {
		w.chance(t, r, 8)
		tables, were = append(tables, w.table), append(were, copied(w.table))
	}
	for i := range tables {
		if !same(tables[i], were[i]) {
			t.Fatalf("table %d: %+v; it was %+v", i, tables[i], were[i])
		}
	}
}

// R3: what is answered hangs on the arguments alone: calls of other tables in between change nothing.
func TestAgain(t *testing.T) {
	r := rand.New(rand.NewSource(231))
	tables := append(good(), nil, filled(waits(1, 0)))
	for range 2000 {
		table, p, h := tables[r.Intn(len(tables))], r.Intn(18)-1, named(r.Intn(17), 1+r.Intn(9))
		was := asked(table, p, h)
		asked(tables[r.Intn(len(tables))], r.Intn(18)-1, named(r.Intn(17), lastGen))
		is := asked(table, p, h)
		if !slices.Equal(is.numbers, was.numbers) || !slices.EqualFunc(is.tables, was.tables, same) {
			t.Fatalf("%+v, %d, %d: %+v; it was %+v", table, p, h, is, was)
		}
	}
}

// answers are what all calls of a table answer.
type answers struct {
	numbers []int
	tables  [][]Proc
}

// asked calls them all.
func asked(table []Proc, p, h int) answers {
	spawned, name, e1 := Spawn(table, p, h)
	over, e2 := End(table, p, h)
	reaped, how, e3 := Reap(table, h)
	at, e4 := Find(table, h)
	numbers := []int{name, int(e1), int(e2), how, int(e3), at, int(e4), Handle(table, p), -1}
	numbers = append(append(numbers, In(table, p%5)...), -1)
	return answers{append(numbers, Handles(table)...), [][]Proc{spawned, over, reaped}}
}
