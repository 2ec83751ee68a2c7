package interp

import (
	"fmt"
	"math"
	"math/rand"
	"slices"
	"strings"
	"testing"

	"becket/api"
	"becket/frame"
	"becket/instr"
	"becket/opcode"
	"becket/prog"
)

// The ends of words, the last place, how many there are of what a frame has, and how many steps a run has at most, as the document tells them.
const (
	least    = -2147483648
	greatest = 2147483647
	last     = 64
	regs     = 8
	memory   = 16
	calls    = 8
	steady   = 10000
)

// words are the ends of the words, some that are near them, near 0, near the ends of smaller types, such as move bits by none, by all but one and by more than there are, and in between.
var words = []int{least, least + 1, -1073741824, -65537, -65536, -32769, -32768, -256, -129, -33, -32, -31, -8, -7, -2, -1, 0, 1, 2, 3, 7, 8, 15, 16, 30, 31, 32, 33, 63, 64, 127, 255, 256, 32767, 32768, 46341, 65535, 65536, 1000000007, 1073741824, greatest - 1, greatest}

// noPlaces are numbers of no word of memory: below 0 and behind, among them such as become one when they are cut to fewer bits.
var noPlaces = []int{least, least + 1, -65536, -65535, -256, -255, -241, -32, -17, -16, -15, -2, -1, 16, 17, 31, 32, 127, 128, 255, 256, 257, 65536, 65537, greatest - 1, greatest}

// The opcodes of what asks for something beside the process, and of guards, as the table of layer 9 tells them.
const (
	asking = "27 28 29 30 31 32 33 34 35 36 37 38 39 40 41 46 47"
	asked  = "42 43 44 45"
)

// The plainest instructions.
var (
	nop  = of(0, 0, 0, 0)
	halt = of(1, 0, 0, 0)
	ret  = of(23, 0, 0, 0)
	emit = of(27, 3, 0, 0)
	skip = of(45, 0, 0, 8)
	cut  = of(7, 1, 2, 3) // div r1 r2 r3
)

// of is an instruction by its bytes.
func of(op, a, b, c uint8) api.Instr { return api.Instr{Op: op, A: a, B: b, C: c} }

// list is a list of instructions.
func list(l ...api.Instr) []api.Instr { return l }

// times is an instruction so many times.
func times(many int, x api.Instr) []api.Instr { return slices.Repeat(list(x), many) }

// among is a program of so many instructions that do nothing, but for one at a place.
func among(many, at int, x api.Instr) []api.Instr {
	l := times(many, nop)
	l[at] = x
	return l
}

// start is a frame with these words in its registers.
func start(words ...int) frame.Frame {
	var f frame.Frame
	copy(f.Regs[:], words)
	return f
}

// busy is a frame in which all that may be other than 0 is, each number another one, with so many calls.
func busy(depth int) frame.Frame {
	f := frame.Frame{Bad: true, Depth: depth}
	for i := range f.Regs {
		f.Regs[i] = 1000 + 7*i
	}
	for i := range f.Words {
		f.Words[i] = -2000 - 11*i
	}
	for i := range depth {
		f.Stack[i] = 20 + 3*i
	}
	return f
}

// some are frames that may be, all at place 0: such as are at the beginning, busy ones of all numbers of calls, and such as have all numbers at their ends.
func some() []frame.Frame {
	out := []frame.Frame{{}, {Bad: true}, start(5), start(0, 1, -1, least, greatest, 2, 3, 64)}
	for depth := range calls + 1 {
		f := busy(depth)
		out = append(out, f)
		f.Bad = false
		out = append(out, f)
	}
	low, high := frame.Frame{Depth: calls}, frame.Frame{Bad: true, Depth: calls}
	for i := range regs {
		low.Regs[i], high.Regs[i] = least, greatest
	}
	for i := range memory {
		low.Words[i], high.Words[i] = least, greatest
	}
	for i := range calls {
		high.Stack[i] = last
	}
	return append(out, low, high)
}

// at is a frame at a place.
func at(f frame.Frame, pc int) frame.Frame {
	f.PC = pc
	return f
}

// with is a frame with a word in a register.
func with(f frame.Frame, r, x int) frame.Frame {
	f.Regs[r] = x
	return f
}

// held is a frame with a word in its memory.
func held(f frame.Frame, at, x int) frame.Frame {
	f.Words[at] = x
	return f
}

// wrong are frames that may not be: in each just one number is wrong.
func wrong() []frame.Frame {
	var out []frame.Frame
	for _, f := range []frame.Frame{{}, busy(4), at(busy(7), 2)} {
		for _, pc := range []int{math.MinInt, -256, -64, -1, last + 1, 128, 256, 1 << 32, math.MaxInt} {
			out = append(out, at(f, pc))
		}
		for _, n := range []int{math.MinInt, least - 1, greatest + 1, 1 << 32, math.MaxInt} {
			out = append(out, with(f, 0, n), with(f, 7, n), held(f, 0, n), held(f, 15, n))
		}
		for _, n := range []int{math.MinInt, -1, calls + 1, 256, math.MaxInt} {
			g := f
			g.Depth = n
			out = append(out, g)
		}
		for _, n := range []int{math.MinInt, -1, last + 1, 256, math.MaxInt} {
			g := f
			g.Stack[0] = n
			out = append(out, g)
		}
		g := f
		g.Stack[7] = 1
		out = append(out, g)
	}
	return out
}

// none are instructions that are no program: what is wrong with them is at their beginning, or further on, or of all of them.
func none() [][]api.Instr {
	out := [][]api.Instr{nil, {}, times(65, nop), times(65, halt), times(300, nop)}
	for _, x := range []api.Instr{
		of(48, 0, 0, 0), of(255, 0, 0, 0), of(0, 1, 0, 0), of(1, 0, 0, 1), of(2, 8, 0, 0), of(4, 0, 0, 8), of(26, 0, 0, 0), of(27, 8, 0, 0),
		of(18, 65, 0, 0), of(18, 5, 0, 0), of(22, 5, 0, 0), of(41, 0, 0, 0), of(41, 0, 0, 1), of(41, 0, 3, 1), skip, of(42, 0, 0, 0),
	} {
		for place := range 4 {
			out = append(out, among(4, place, x))
		}
	}
	return append(out, list(halt, of(41, 0, 0, 1), skip, of(18, 2, 0, 0)), list(nop, halt, of(41, 0, 0, 2), skip), list(of(41, 0, 0, 1), skip, skip))
}

// wrapped is a number wrapped, as the chapter of layer 8 tells it.
func wrapped(n int) int {
	const round = 1 << 32
	return ((n-least)%round+round)%round + least
}

// bits is a number of which each bit comes of those of two words.
func bits(b, c int, way func(b, c int) bool) int {
	n := 0
	for i := range 32 {
		if way(b>>i&1, c>>i&1) {
			n += 1 << i
		}
	}
	return n
}

// reckoned is what the table tells of opcodes 4 to 13, 16 and 17.
func reckoned(op uint8, b, c int) (int, api.Errno) {
	n, power := 0, 1<<((c+1<<40)%32)
	switch op {
	case 4:
		n = b + c
	case 5:
		n = b - c
	case 6:
		n = b * c
	case 7, 8:
		if c == 0 {
			return 0, api.ErrZero
		}
		n = max(b, -b) / max(c, -c)
		if b < 0 != (c < 0) {
			n = -n
		}
		if op == 8 {
			n = b - n*c
		}
	case 9:
		n = bits(b, c, func(b, c int) bool { return b+c == 2 })
	case 10:
		n = bits(b, c, func(b, c int) bool { return b+c > 0 })
	case 11:
		n = bits(b, c, func(b, c int) bool { return b+c == 1 })
	case 12:
		n = b * power
	case 13:
		n = int(math.Floor(float64(b) / float64(power)))
	case 16:
		n = map[bool]int{true: 1}[b < c]
	case 17:
		n = map[bool]int{true: 1}[b == c]
	}
	return wrapped(n), api.OK
}

// in tells whether a list of numbers has an opcode.
func in(list string, op uint8) bool { return slices.Contains(strings.Fields(list), fmt.Sprint(op)) }

// changed is the frame behind an instruction that Asks, Ended and fail are not told of, as the chapter and the table tell it.
func changed(x api.Instr, f frame.Frame) (frame.Frame, api.Errno) {
	g, err := at(f, f.PC+1), api.OK
	switch x.Op {
	case 2:
		g.Regs[x.A] = f.Regs[x.B]
	case 3:
		n := 256*int(x.B) + int(x.C)
		if n >= 32768 {
			n -= 65536
		}
		g.Regs[x.A] = n
	case 4, 5, 6, 7, 8, 9, 10, 11, 12, 13, 16, 17:
		g.Regs[x.A], err = reckoned(x.Op, f.Regs[x.B], f.Regs[x.C])
	case 14:
		g.Regs[x.A] = -1 - f.Regs[x.B]
	case 15:
		g.Regs[x.A] = wrapped(-f.Regs[x.B])
	case 18:
		g.PC = int(x.A)
	case 19, 20:
		if (f.Regs[x.A] == 0) == (x.Op == 19) {
			g.PC = int(x.B)
		}
	case 21:
		if f.Bad {
			g.PC = int(x.A)
		}
	case 22:
		if f.Depth == calls {
			return f, api.ErrStack
		}
		g.PC, g.Depth, g.Stack[f.Depth] = int(x.A), f.Depth+1, f.PC+1
	case 23:
		if f.Depth == 0 {
			return f, api.ErrStack
		}
		g.PC, g.Depth, g.Stack[f.Depth-1] = f.Stack[f.Depth-1], f.Depth-1, 0
	case 24, 25:
		return moved(x, f)
	}
	if err != api.OK {
		return f, err
	}
	return g, api.OK
}

// moved is the frame behind load and store.
func moved(x api.Instr, f frame.Frame) (frame.Frame, api.Errno) {
	r, place := x.A, f.Regs[x.B]
	if x.Op == 25 {
		r, place = x.B, f.Regs[x.A]
	}
	if place < 0 || place > 15 {
		return f, api.ErrRange
	}
	g := at(f, f.PC+1)
	if x.Op == 25 {
		return held(g, place, f.Regs[r]), api.OK
	}
	return with(g, int(r), f.Words[place]), api.OK
}

// stepped is what the chapter asks of Step.
func stepped(l []api.Instr, f frame.Frame) (frame.Frame, int, api.Errno) {
	if _, e := prog.Check(l); e != api.OK || !frame.Fine(f) {
		return f, 3, 1
	}
	if f.PC >= len(l) {
		return f, map[bool]int{true: 2, false: 3}[f.PC == len(l)], map[bool]api.Errno{true: 0, false: 18}[f.PC == len(l)]
	}
	x := l[f.PC]
	switch {
	case in(asked, x.Op):
		return f, 3, 18
	case in(asking, x.Op):
		return f, 1, 0
	case x.Op == 1:
		return f, 2, 0
	case x.Op == 26:
		return f, 3, 256 + api.Errno(x.A)
	}
	g, e := changed(x, f)
	if e != api.OK {
		return f, 3, e
	}
	return g, 0, 0
}

// ran is what the chapter asks of Run.
func ran(l []api.Instr, f frame.Frame, most int) (frame.Frame, int, api.Errno, int) {
	what, e := 0, api.OK
	for n := 0; ; n++ {
		if n >= most || n == steady {
			return f, what, e, n
		}
		if f, what, e = stepped(l, f); what != 0 {
			return f, what, e, n
		}
	}
}

// shown is the beginning of a list's text.
func shown(l []api.Instr) string { return fmt.Sprintf("%d, %.300s", len(l), fmt.Sprint(l)) }

// steps fails, unless Step answers so, and leaves the instructions as they are.
func steps(t *testing.T, l []api.Instr, f, want frame.Frame, what int, err api.Errno) {
	t.Helper()
	before := slices.Clone(l)
	if got, is, e := Step(l, f); got != want || is != what || e != err {
		t.Errorf("Step of %s at %v:\n%v, %d, %d; want\n%v, %d, %d", shown(l), f, got, is, e, want, what, err)
	}
	if !slices.Equal(l, before) {
		t.Errorf("Step of %s has written to it", shown(before))
	}
}

// runs fails, unless Run answers so, and leaves the instructions as they are.
func runs(t *testing.T, l []api.Instr, f frame.Frame, most int, want frame.Frame, what int, err api.Errno, many int) {
	t.Helper()
	before := slices.Clone(l)
	if got, is, e, n := Run(l, f, most); got != want || is != what || e != err || n != many {
		t.Errorf("Run of %s at %v, %d:\n%v, %d, %d, %d; want\n%v, %d, %d, %d", shown(l), f, most, got, is, e, n, want, what, err, many)
	}
	if !slices.Equal(l, before) {
		t.Errorf("Run of %s has written to it", shown(before))
	}
}

// goes fails, unless a step of an instruction at the first place leads from one frame to another.
func goes(t *testing.T, x api.Instr, f, want frame.Frame) {
	t.Helper()
	steps(t, list(x, halt), f, want, Ran, api.OK)
}

// faults fails, unless a step of an instruction at the first place faults by this number.
func faults(t *testing.T, x api.Instr, f frame.Frame, err api.Errno) {
	t.Helper()
	steps(t, list(x, halt), f, f, Faulted, err)
}

// holds fails, unless a step is the one that the chapter asks for, changes no more than it may, and leads from a frame that may be to one.
func holds(t *testing.T, l []api.Instr, f frame.Frame) frame.Frame {
	t.Helper()
	want, what, err := stepped(l, f)
	steps(t, l, f, want, what, err)
	got, is, _ := Step(l, f)
	many := 0
	for i := range regs {
		if got.Regs[i] != f.Regs[i] {
			many++
		}
	}
	for i := range memory {
		if got.Words[i] != f.Words[i] {
			many++
		}
	}
	if many > 1 || got.Bad != f.Bad || frame.Fine(got) != frame.Fine(f) || is != Ran && got != f {
		t.Errorf("Step of %s at %v: %v: %d words changed", shown(l), f, got, many)
	}
	return got
}

// runsAnew fails, unless Run answers what the chapter asks for.
func runsAnew(t *testing.T, l []api.Instr, f frame.Frame, most int) {
	t.Helper()
	want, what, err, many := ran(l, f, most)
	runs(t, l, f, most, want, what, err, many)
}

// byChance is one of a list.
func byChance[T any](r *rand.Rand, l []T) T { return l[r.Intn(len(l))] }

// byteOf is a byte that may be where a form has this letter, in a program of so many instructions.
func byteOf(r *rand.Rand, letter byte, many int) uint8 {
	switch letter {
	case 'i', 'j':
		return byChance(r, []uint8{0, 1, 2, 127, 128, 254, 255, uint8(r.Intn(256))})
	case 't':
		return uint8(r.Intn(many + 1))
	case 's':
		return uint8(1 + r.Intn(255))
	case 'g':
		return uint8(r.Intn(regs + 1))
	case 'm':
		return uint8(r.Intn(3))
	case 'k':
		return uint8(r.Intn(4))
	case '-':
		return 0
	}
	return uint8(r.Intn(8)) // a register, a channel, a barrier, a program
}

// instrOf is an instruction of an opcode, fit for a program of so many.
func instrOf(r *rand.Rand, op, many int) api.Instr {
	form := opcode.Form(op)
	return of(uint8(op), byteOf(r, form[0], many), byteOf(r, form[1], many), byteOf(r, form[2], many))
}

// program is a program by chance: mostly of what the process does alone.
func program(r *rand.Rand) []api.Instr {
	many := 1 + r.Intn(last)
	for {
		var l []api.Instr
		for len(l) < many {
			switch n := r.Intn(40); {
			case n == 0 && many-len(l) > 7:
				guards := 1 + r.Intn(6)
				l = append(l, of(41, byteOf(r, 'r', many), byteOf(r, 'm', many), uint8(guards)))
				for range guards {
					l = append(l, instrOf(r, 42+r.Intn(4), many))
				}
			case n < 3:
				l = append(l, instrOf(r, byChance(r, []int{1, 26, 27, 28, 33, 40, 46, 47}), many))
			default:
				l = append(l, instrOf(r, byChance(r, []int{0, 2, 3, 3, 4, 5, 6, 7, 8, 9, 10, 11, 12, 13, 14, 15, 16, 17, 18, 19, 19, 20, 20, 21, 22, 23, 24, 25}), many))
			}
		}
		if _, e := prog.Check(l); e == api.OK { // else a jump leads to a guard
			return l
		}
	}
}

// frameOf is a frame by chance: mostly with words that are places of memory, too, and within a program of so many.
func frameOf(r *rand.Rand, many int) frame.Frame {
	f := frame.Frame{PC: r.Intn(many), Bad: r.Intn(2) == 0, Depth: r.Intn(calls + 1)}
	for i := range f.Regs {
		f.Regs[i] = byChance(r, []int{0, 1, r.Intn(memory), byChance(r, words), wrapped(int(r.Uint32()))})
	}
	for i := range f.Words {
		f.Words[i] = byChance(r, words)
	}
	for i := range f.Depth {
		f.Stack[i] = r.Intn(many + 1)
	}
	if r.Intn(10) == 0 {
		f.PC = r.Intn(last + 1)
	}
	return f
}

// The chapter's example.
func TestExamples(t *testing.T) {
	l := list(of(3, 1, 255, 254), of(4, 1, 1, 1), halt)
	runs(t, l, start(), 9, frame.Frame{PC: 2, Regs: [8]int{1: -4}}, Ended, api.OK, 2)
}

// P14.1: the numbers of what comes of a step.
func TestWhat(t *testing.T) {
	if got := []int{Ran, Asks, Ended, Faulted}; !slices.Equal(got, []int{0, 1, 2, 3}) {
		t.Errorf("%v", got)
	}
}

// What these tests tell of opcodes and of programs is what the layers below tell of them.
func TestTable(t *testing.T) {
	for op := range 256 {
		class := opcode.Class(op)
		if in(asking, uint8(op)) != (class == 2 || class == 4) || in(asked, uint8(op)) != (class == 3) {
			t.Errorf("%d: class %d", op, class)
		}
	}
	for _, l := range none() {
		if _, e := prog.Check(l); e == api.OK {
			t.Errorf("%s: a program", shown(l))
		}
	}
	for _, f := range wrong() {
		if frame.Fine(f) {
			t.Errorf("%v: may be", f)
		}
	}
	for _, f := range some() {
		if !frame.Fine(f) {
			t.Errorf("%v: may not be", f)
		}
	}
}

// P14.1: each opcode that reckons, once and more, written out: what A gets of B and C.
func TestReckonTable(t *testing.T) {
	for _, c := range []struct {
		name       string
		b, c, want int
	}{
		{"add", 7, -9, -2}, {"add", greatest, 1, least}, {"add", least, -1, greatest}, {"add", least, least, 0}, {"add", greatest, greatest, -2},
		{"sub", 7, -9, 16}, {"sub", least, 1, greatest}, {"sub", greatest, -1, least}, {"sub", 0, least, least}, {"sub", 3, 10, -7},
		{"mul", 7, -9, -63}, {"mul", greatest, 2, -2}, {"mul", least, -1, least}, {"mul", 65536, 65536, 0}, {"mul", greatest, greatest, 1}, {"mul", 46341, 46341, -2147479015},
		{"div", -7, 2, -3}, {"div", 7, -2, -3}, {"div", -7, -2, 3}, {"div", least, -1, least}, {"div", 0, 5, 0}, {"div", least, 1, least}, {"div", greatest, least, 0},
		{"rem", -7, 2, -1}, {"rem", 7, -2, 1}, {"rem", -7, -2, -1}, {"rem", least, -1, 0}, {"rem", 0, 5, 0}, {"rem", greatest, least, greatest},
		{"and", 12, 10, 8}, {"and", -1, least, least}, {"and", -2, greatest, greatest - 1}, {"and", 1, 2, 0},
		{"or", 12, 10, 14}, {"or", least, greatest, -1}, {"or", 1, 2, 3}, {"or", -8, 7, -1},
		{"xor", 12, 10, 6}, {"xor", -1, greatest, least}, {"xor", 5, 5, 0}, {"xor", -1, 0, -1},
		{"shl", 1, 31, least}, {"shl", 3, 31, least}, {"shl", 1, 32, 1}, {"shl", 5, -31, 10}, {"shl", -1, 4, -16}, {"shl", 7, 33, 14},
		{"shr", -8, 1, -4}, {"shr", -1, 31, -1}, {"shr", least, 31, -1}, {"shr", greatest, 30, 1}, {"shr", -8, 32, -8}, {"shr", 9, -31, 4},
		{"lt", 2, 3, 1}, {"lt", 3, 2, 0}, {"lt", 2, 2, 0}, {"lt", least, greatest, 1}, {"lt", greatest, least, 0}, {"lt", -1, 0, 1},
		{"eq", 2, 2, 1}, {"eq", 2, 3, 0}, {"eq", least, least, 1}, {"eq", least, greatest, 0}, {"eq", 0, 0, 1}, {"eq", -1, 1, 0},
	} {
		op, _ := opcode.Find(c.name)
		f := with(with(busy(3), 5, c.b), 7, c.c)
		goes(t, of(uint8(op), 2, 5, 7), f, at(with(f, 2, c.want), 1))
	}
}

// P14.1: each opcode that reckons with one word, once and more, written out: what A gets of B.
func TestOneTable(t *testing.T) {
	for _, c := range []struct {
		name    string
		b, want int
	}{
		{"mov", 0, 0}, {"mov", 9, 9}, {"mov", least, least}, {"mov", greatest, greatest}, {"mov", -1, -1},
		{"not", 0, -1}, {"not", -1, 0}, {"not", least, greatest}, {"not", greatest, least}, {"not", 5, -6},
		{"neg", 0, 0}, {"neg", 9, -9}, {"neg", -9, 9}, {"neg", least, least}, {"neg", greatest, least + 1},
		{"load", 0, -2000}, {"load", 1, -2011}, {"load", 7, -2077}, {"load", 8, -2088}, {"load", 15, -2165},
	} {
		op, _ := opcode.Find(c.name)
		f := with(busy(3), 5, c.b)
		goes(t, of(uint8(op), 2, 5, 0), f, at(with(f, 2, c.want), 1))
	}
}

// P14.1: nothing is done by nop, but PC goes on, whatever the frame is.
func TestNop(t *testing.T) {
	for _, f := range some() {
		for pc := range last {
			steps(t, times(last, nop), at(f, pc), at(f, pc+1), Ran, api.OK)
		}
	}
}

// P14.1: a number by set, below 0 and at both ends, and all of them into a register each.
func TestSet(t *testing.T) {
	for _, c := range []struct {
		high, low uint8
		want      int
	}{{0, 0, 0}, {0, 1, 1}, {0, 255, 255}, {1, 0, 256}, {127, 255, 32767}, {128, 0, -32768}, {255, 255, -1}, {255, 254, -2}, {255, 0, -256}, {128, 1, -32767}, {8, 9, 2057}} {
		for r := range uint8(regs) {
			f := busy(2)
			goes(t, of(3, r, c.high, c.low), f, at(with(f, int(r), c.want), 1))
		}
	}
	for n := -32768; n <= 32767; n++ {
		f := busy(1)
		goes(t, of(3, uint8(n&7), uint8(n>>8), uint8(n)), f, at(with(f, n&7, n), 1))
	}
}

// P14.1, P14.2: all that is reckoned with pairs of edge words, held against a second reading.
func TestReckonPairs(t *testing.T) {
	for _, op := range []uint8{4, 5, 6, 7, 8, 9, 10, 11, 12, 13, 16, 17} {
		for _, b := range words {
			for _, c := range words {
				holds(t, list(of(op, 0, 3, 6)), start(9, 9, 9, b, 9, 9, c))
			}
		}
	}
	for _, op := range []uint8{2, 14, 15, 24, 25, 19, 20, 27} {
		for _, b := range words {
			for _, c := range words {
				x := of(op, 3, 6, 0)
				switch op {
				case 27:
					x = of(op, 3, 0, 0)
				case 19, 20:
					x = of(op, 3, 1, 0)
				}
				holds(t, list(x), start(9, 9, 9, b, 9, 9, c))
			}
		}
	}
}

// P14.1: each three registers, among them such as are one and the same.
func TestRegisters(t *testing.T) {
	for _, op := range []uint8{4, 5, 6, 7, 8, 9, 10, 11, 12, 13, 16, 17, 2, 14, 15} {
		for n := range uint8(128) {
			for a := range uint8(4) {
				x := of(op, a<<1|n>>6, n>>3&7, n&7)
				if op == 2 || op == 14 || op == 15 {
					x.C = 0
				}
				holds(t, list(x), busy(5))
				holds(t, list(x), start(0, 1, -1, least, greatest, 2, 3, 64))
			}
		}
	}
}

// P14.1: A, B and C one and the same register, written out.
func TestSameRegister(t *testing.T) {
	for _, c := range []struct {
		op      uint8
		x, want int
	}{{4, 6, 12}, {4, least, 0}, {5, 6, 0}, {6, -6, 36}, {7, -6, 1}, {8, -6, 0}, {9, 6, 6}, {10, 6, 6}, {11, 6, 0}, {12, 3, 24}, {13, 3, 0}, {13, -1, -1}, {16, 6, 0}, {17, 6, 1}} {
		for r := range uint8(regs) {
			f := with(busy(2), int(r), c.x)
			goes(t, of(c.op, r, r, r), f, at(with(f, int(r), c.want), 1))
		}
	}
	for r := range uint8(regs) {
		f := with(busy(2), int(r), 6)
		goes(t, of(2, r, r, 0), f, at(f, 1))
		goes(t, of(14, r, r, 0), f, at(with(f, int(r), -7), 1))
		goes(t, of(15, r, r, 0), f, at(with(f, int(r), -6), 1))
		goes(t, of(24, r, r, 0), f, at(with(f, int(r), -2066), 1))
		goes(t, of(25, r, r, 0), f, at(held(f, 6, 6), 1))
	}
}

// P14.1: each word of memory is stored to by its number in A, and loaded by its number in B.
func TestMemory(t *testing.T) {
	for place := range memory {
		for _, x := range words {
			f := with(with(busy(2), 1, place), 2, x)
			goes(t, of(25, 1, 2, 0), f, at(held(f, place, x), 1))
			f = held(f, place, x)
			goes(t, of(24, 4, 1, 0), f, at(with(f, 4, x), 1))
		}
	}
}

// P14.2: there is no word of memory below 0 or from 16 on.
func TestMemoryNone(t *testing.T) {
	for _, place := range noPlaces {
		f := with(with(busy(2), 1, place), 2, 5)
		faults(t, of(25, 1, 2, 0), f, api.ErrRange)
		faults(t, of(24, 2, 1, 0), f, api.ErrRange)
		faults(t, of(25, 1, 1, 0), f, api.ErrRange)
		faults(t, of(24, 1, 1, 0), f, api.ErrRange)
	}
}

// P14.2: nothing is divided by 0, be it by another register or by the one that is divided.
func TestZero(t *testing.T) {
	for _, b := range words {
		for _, op := range []uint8{7, 8} {
			f := with(with(busy(2), 5, b), 7, 0)
			faults(t, of(op, 2, 5, 7), f, api.ErrZero)
			faults(t, of(op, 5, 5, 7), f, api.ErrZero)
			faults(t, of(op, 7, 5, 7), f, api.ErrZero)
			faults(t, of(op, 7, 7, 7), f, api.ErrZero)
			goes(t, of(op, 2, 7, 0), with(f, 0, 3), at(with(with(f, 0, 3), 2, 0), 1))
		}
	}
}

// P14.1: jumps lead to each place, the program's length among them, from each place.
func TestJmp(t *testing.T) {
	for _, many := range []int{1, 2, 9, 63, 64} {
		for from := range many {
			for to := range many + 1 {
				f := at(busy(3), from)
				steps(t, among(many, from, of(18, uint8(to), 0, 0)), f, at(f, to), Ran, api.OK)
			}
		}
	}
}

// P14.1: jz and jnz by 0 and others: at their place, or one on.
func TestJumpsByWord(t *testing.T) {
	for _, x := range words {
		for r := range uint8(regs) {
			for _, to := range []int{0, 3, 4, 5, 9} {
				f := with(at(busy(3), 4), int(r), x)
				jz, jnz := at(f, 5), at(f, to)
				if x == 0 {
					jz, jnz = jnz, jz
				}
				steps(t, among(9, 4, of(19, r, uint8(to), 0)), f, jz, Ran, api.OK)
				steps(t, among(9, 4, of(20, r, uint8(to), 0)), f, jnz, Ran, api.OK)
			}
		}
	}
}

// P14.1: jbad by what was waited for last alone; Bad stays as it is.
func TestJbad(t *testing.T) {
	for _, f := range some() {
		for _, to := range []int{0, 3, 4, 5, 9} {
			f.PC = 4
			want := at(f, 5)
			if f.Bad {
				want = at(f, to)
			}
			steps(t, among(9, 4, of(21, uint8(to), 0, 0)), f, want, Ran, api.OK)
		}
	}
}

// P14.1: a jump that is not done at the program's last place leads behind it.
func TestLastPlace(t *testing.T) {
	for _, many := range []int{1, 2, 64} {
		f := at(start(0, 1), many-1)
		for _, x := range []api.Instr{of(19, 1, 0, 0), of(20, 0, 0, 0), of(21, 0, 0, 0), nop, of(3, 1, 0, 1)} {
			steps(t, among(many, many-1, x), f, at(f, many), Ran, api.OK)
		}
	}
}

// P14.1, P14.2: calls with each number of calls, from each place, the program's last one among them, to places.
func TestCall(t *testing.T) {
	for depth := range calls + 1 {
		for from := range last {
			f := at(busy(depth), from)
			for _, to := range []int{0, 1, 31, 63, 64} {
				l := among(last, from, of(22, uint8(to), 0, 0))
				if depth == calls {
					steps(t, l, f, f, Faulted, api.ErrStack)
					continue
				}
				want := at(f, to)
				want.Depth++
				want.Stack[depth] = from + 1
				steps(t, l, f, want, Ran, api.OK)
			}
		}
	}
	f := frame.Frame{PC: 1, Depth: 7, Stack: [8]int{1, 2, 3, 4, 5, 6, 7}}
	steps(t, list(nop, of(22, 2, 0, 0)), f, frame.Frame{PC: 2, Depth: 8, Stack: [8]int{1, 2, 3, 4, 5, 6, 7, 2}}, Ran, api.OK)
	f.Depth, f.Stack[7] = 8, 8
	steps(t, list(nop, of(22, 2, 0, 0)), f, f, Faulted, api.ErrStack)
}

// P14.1, P14.2: ret without a call, and back from each number of them, to wherever they are to go back.
func TestRet(t *testing.T) {
	for _, bad := range []bool{false, true} {
		faults(t, ret, frame.Frame{Bad: bad}, api.ErrStack)
	}
	faults(t, ret, busy(0), api.ErrStack)
	for depth := 1; depth <= calls; depth++ {
		for to := range last + 1 {
			f := busy(depth)
			f.Stack[depth-1] = to
			want := busy(depth - 1)
			want.PC = to
			goes(t, ret, f, want)
		}
	}
	goes(t, ret, frame.Frame{Depth: 1, Stack: [8]int{64}}, frame.Frame{PC: 64})
	goes(t, ret, frame.Frame{Depth: 1}, frame.Frame{})
}

// P14.1: who calls, and comes back, is behind the call.
func TestCallRet(t *testing.T) {
	l := list(of(22, 2, 0, 0), halt, of(22, 4, 0, 0), ret, of(3, 1, 0, 7), ret)
	runs(t, l, start(3), steady, frame.Frame{PC: 1, Regs: [8]int{3, 7}}, Ended, api.OK, 5)
}

// P14.1: halt, and fail by each number, whatever the frame is.
func TestEnds(t *testing.T) {
	for _, f := range some() {
		steps(t, list(halt, nop), f, f, Ended, api.OK)
		faults(t, of(26, 1, 0, 0), f, 257)
		faults(t, of(26, 255, 0, 0), f, 511)
		for n := 1; n <= 255; n++ {
			steps(t, list(nop, of(26, uint8(n), 0, 0)), at(f, 1), at(f, 1), Faulted, api.Errno(256+n))
		}
	}
}

// P14.1: PC at the program's length, one behind it, and further.
func TestBehind(t *testing.T) {
	for _, f := range some() {
		for many := 1; many <= last; many++ {
			for _, l := range [][]api.Instr{times(many, nop), times(many, halt), times(many, emit), times(many, of(26, 18, 0, 0))} {
				steps(t, l, at(f, many), at(f, many), Ended, api.OK)
				for pc := many + 1; pc <= last; pc++ {
					steps(t, l, at(f, pc), at(f, pc), Faulted, api.ErrCode)
				}
			}
		}
	}
}

// P14.1: PC at a guard, of each kind, with a register and without, at each place behind an alt.
func TestGuards(t *testing.T) {
	for _, x := range []api.Instr{of(42, 0, 1, 8), of(42, 7, 7, 0), of(43, 7, 0, 8), of(43, 0, 0, 7), of(44, 3, 0, 8), of(44, 0, 0, 3), skip, of(45, 0, 0, 1)} {
		for many := 1; many <= 6; many++ {
			l := slices.Concat(list(nop, of(41, 1, 2, uint8(many))), times(many, x), list(halt))
			for _, f := range some() {
				for g := range many {
					steps(t, l, at(f, 2+g), at(f, 2+g), Faulted, api.ErrCode)
				}
				steps(t, l, at(f, 1), at(f, 1), Asks, api.OK)
				steps(t, l, at(f, 2+many), at(f, 2+many), Ended, api.OK)
			}
		}
	}
}

// P14.1: each instruction of class 2 and 4 asks, whatever its bytes and the frame are.
func TestAsks(t *testing.T) {
	r := rand.New(rand.NewSource(14))
	for op := range 48 {
		if !in(asking, uint8(op)) {
			continue
		}
		for range 30 {
			x := instrOf(r, op, 1)
			l := list(x)
			if op == 41 {
				x.C = uint8(1 + r.Intn(6))
				l = append(list(x), times(int(x.C), skip)...)
			}
			for _, f := range some() {
				steps(t, l, f, f, Asks, api.OK)
				steps(t, append(list(nop, nop), l...), at(f, 2), at(f, 2), Asks, api.OK)
				runs(t, l, f, steady, f, Asks, api.OK, 0)
			}
		}
	}
}

// P14.1: what is no program, and a frame that may not be, is told ahead of all else; the frame stays as it was.
func TestWrong(t *testing.T) {
	for _, l := range none() {
		for _, f := range append(some(), wrong()...) {
			steps(t, l, f, f, Faulted, api.ErrArg)
			runs(t, l, f, 1, f, Faulted, api.ErrArg, 0)
			runs(t, l, f, 20000, f, Faulted, api.ErrArg, 0)
		}
		for pc := range last + 1 {
			steps(t, l, at(busy(3), pc), at(busy(3), pc), Faulted, api.ErrArg)
		}
	}
	for _, x := range []api.Instr{nop, halt, of(26, 9, 0, 0), ret, emit, cut, of(24, 0, 0, 0), of(18, 1, 0, 0)} {
		for _, f := range wrong() {
			for _, l := range [][]api.Instr{list(x), times(64, x)} {
				steps(t, l, f, f, Faulted, api.ErrArg)
				runs(t, l, f, 1, f, Faulted, api.ErrArg, 0)
				runs(t, l, f, steady, f, Faulted, api.ErrArg, 0)
			}
		}
	}
}

// P14.3: no step is done, if most is below 1, be the program and the frame as they may.
func TestRunNone(t *testing.T) {
	for _, most := range []int{math.MinInt, -1 << 32, -1<<32 + 1, least, -10001, -10000, -2, -1, 0} {
		for _, l := range [][]api.Instr{list(nop), list(halt), list(emit), list(ret), list(of(18, 0, 0, 0)), nil, list(skip), times(65, nop)} {
			for _, f := range []frame.Frame{{}, busy(4), at(busy(8), 1), at(busy(2), 64), {PC: -1}, {Depth: 9}} {
				runs(t, l, f, most, f, Ran, api.OK, 0)
			}
		}
	}
}

// P14.3: a program that goes round for ever is left behind so many steps as most tells, 10000 at most.
func TestRunForEver(t *testing.T) {
	round := list(of(4, 1, 1, 2), of(18, 0, 0, 0))
	for _, most := range []int{1, 2, 3, 4, 255, 256, 257, 9998, 9999, 10000, 10001, 10002, 20000, 65536, greatest, 1 << 32, 1<<32 + 1, math.MaxInt - 1, math.MaxInt} {
		n := min(most, 10000)
		runs(t, list(of(18, 0, 0, 0)), busy(3), most, busy(3), Ran, api.OK, n)
		runs(t, round, start(0, 0, 1), most, frame.Frame{PC: n % 2, Regs: [8]int{1: (n + 1) / 2, 2: 1}}, Ran, api.OK, n)
	}
}

// P14.3: what ends a run comes behind so many steps as lie ahead of it; if most tells no more than those, it does not come.
func TestRunEnds(t *testing.T) {
	for _, c := range []struct {
		x    api.Instr
		what int
		err  api.Errno
	}{
		{halt, Ended, api.OK}, {emit, Asks, api.OK}, {of(34, 1, 2, 0), Asks, api.OK}, {of(26, 7, 0, 0), Faulted, 263}, {cut, Faulted, api.ErrZero},
		{of(24, 1, 4, 0), Faulted, api.ErrRange}, {of(25, 4, 1, 0), Faulted, api.ErrRange}, {ret, Faulted, api.ErrStack},
	} {
		f := start(1, 2, 3, 0, 16)
		for ahead := range last {
			l := append(times(ahead, nop), c.x)
			for most := 1; most < ahead+3; most++ {
				if most <= ahead {
					runs(t, l, f, most, at(f, most), Ran, api.OK, most)
				} else {
					runs(t, l, f, most, at(f, ahead), c.what, c.err, ahead)
				}
			}
			runs(t, l, f, steady, at(f, ahead), c.what, c.err, ahead)
		}
	}
}

// P14.3: behind the program's end, and where a run comes to a guard or further behind by ret.
func TestRunBehind(t *testing.T) {
	for many := 1; many <= last; many++ {
		f := busy(2)
		runs(t, times(many, nop), f, many, at(f, many), Ran, api.OK, many)
		runs(t, times(many, nop), f, many+1, at(f, many), Ended, api.OK, many)
	}
	l := list(ret, of(41, 0, 0, 1), skip, halt)
	for _, c := range []struct {
		to, what int
		err      api.Errno
	}{{0, Faulted, api.ErrStack}, {1, Asks, api.OK}, {2, Faulted, api.ErrCode}, {3, Ended, api.OK}, {4, Ended, api.OK}, {5, Faulted, api.ErrCode}, {64, Faulted, api.ErrCode}} {
		f := frame.Frame{Depth: 1, Stack: [8]int{c.to}}
		runs(t, l, f, 5, frame.Frame{PC: c.to}, c.what, c.err, 1)
		runs(t, l, f, 1, frame.Frame{PC: c.to}, Ran, api.OK, 1)
	}
}

// P14.3: a run that ends beside its ten thousandth step.
func TestRunLong(t *testing.T) {
	for _, c := range []struct {
		x    api.Instr
		what int
		err  api.Errno
	}{{halt, Ended, api.OK}, {emit, Asks, api.OK}, {of(26, 1, 0, 0), Faulted, 257}, {cut, Faulted, api.ErrZero}} {
		for ahead := 9990; ahead <= 10010; ahead++ { // one step by itself if that is odd, two a round, and one that leads out
			l := list(nop, of(5, 1, 1, 2), of(20, 1, 1, 0), c.x)
			f, end := at(start(0, ahead/2, 1), 1-ahead%2), at(start(0, 0, 1), 3)
			for _, most := range []int{ahead - 1, ahead, ahead + 1, steady, steady + 1, math.MaxInt} {
				got, what, e, n := Run(l, f, most)
				switch limit := min(most, steady); {
				case limit <= ahead && (what != Ran || e != api.OK || n != limit):
					t.Errorf("%d of %d: %v, %d, %d, %d", most, ahead, got, what, e, n)
				case limit > ahead && (got != end || what != c.what || e != c.err || n != ahead):
					t.Errorf("%d of %d: %v, %d, %d, %d; want %v, %d, %d, %d", most, ahead, got, what, e, n, end, c.what, c.err, ahead)
				case limit == ahead && got != end:
					t.Errorf("%d of %d: %v; want %v", most, ahead, got, end)
				}
			}
		}
	}
}

// P14.1 to P14.4: all small programs of picked instructions, from a few frames, at all places.
func TestSmall(t *testing.T) {
	picked := list(nop, halt, emit, ret, of(4, 1, 1, 0), of(7, 0, 0, 1), of(18, 1, 0, 0), of(19, 1, 3, 0), of(20, 0, 0, 0), of(21, 2, 0, 0), of(22, 2, 0, 0), of(24, 1, 0, 0), of(25, 1, 0, 0), of(26, 5, 0, 0), of(41, 0, 0, 1), skip)
	frames := []frame.Frame{{}, start(15, 2), busy(1), at(busy(8), 1), {PC: 2, Bad: true, Regs: [8]int{7, 16}}, {PC: 4}}
	var grow func(l []api.Instr)
	grow = func(l []api.Instr) {
		for _, f := range frames {
			holds(t, l, f)
			for most := -1; most < 8; most += 4 {
				runsAnew(t, l, f, most)
			}
		}
		if len(l) < 3 {
			for _, x := range picked {
				grow(append(l, x))
			}
		}
	}
	grow(make([]api.Instr, 0, 3))
}

// P14.1 to P14.4: programs and frames by chance, step by step, held against a second reading; and all kinds of what comes do come.
func TestChance(t *testing.T) {
	r := rand.New(rand.NewSource(41))
	var came [4]int
	for range 3000 {
		l := program(r)
		f := frameOf(r, len(l))
		for range 60 {
			_, what, err := stepped(l, f)
			came[what]++
			next := holds(t, l, f)
			if what != Ran {
				runs(t, l, f, 5, f, what, err, 0)
				break
			}
			f = next
		}
	}
	for what, many := range came {
		if many < 200 {
			t.Errorf("%d came %d times", what, many)
		}
	}
}

// P14.1 to P14.4: programs of any instructions, be they programs or not, and frames that may be or may not.
func TestAnything(t *testing.T) {
	r := rand.New(rand.NewSource(7))
	bad := wrong()
	for range 20000 {
		l := program(r)
		f := frameOf(r, len(l))
		switch r.Intn(4) {
		case 0:
			f = byChance(r, bad)
		case 1:
			l[r.Intn(len(l))] = of(uint8(r.Intn(60)), uint8(r.Intn(70)), uint8(r.Intn(70)), uint8(r.Intn(10)))
		case 2:
			l = l[r.Intn(len(l)):]
		}
		holds(t, l, f)
		runsAnew(t, l, f, r.Intn(100)-3)
	}
}

// P14.3, P14.4: so many steps and then so many more are all of them at once; and Run is Step so many times.
func TestMore(t *testing.T) {
	r := rand.New(rand.NewSource(3))
	for range 2000 {
		l := program(r)
		f := frameOf(r, len(l))
		a, b := r.Intn(60), r.Intn(60)
		if r.Intn(20) == 0 {
			a, b = r.Intn(5001), r.Intn(5001)
		}
		g, what, e, first := Run(l, f, a)
		if what == Ran && first != a || !frame.Fine(g) {
			t.Fatalf("%s at %v: %d steps of %d", shown(l), f, first, a)
		}
		h, then, err, second := Run(l, g, b)
		if what != Ran && b > 0 && (h != g || then != what || err != e || second != 0) {
			t.Errorf("%s at %v: behind %d, %d: %v, %d, %d, %d", shown(l), g, what, e, h, then, err, second)
		}
		if what != Ran && b == 0 { // nothing more is done, and so nothing is told of it again
			then, err = what, e
		}
		runs(t, l, f, a+b, h, then, err, first+second)
		runsAnew(t, l, f, a+b)
	}
}

// P14.1 to P14.4: nothing is kept from call to call: what was answered once is answered again, whatever was asked in between.
func TestAgain(t *testing.T) {
	r := rand.New(rand.NewSource(5))
	for range 2000 {
		l := program(r)
		f := frameOf(r, len(l))
		next, what, e := Step(l, f)
		end, is, err, many := Run(l, f, 70)
		other := program(r)
		Step(other, frameOf(r, len(other)))
		Run(other, frameOf(r, len(other)), 30)
		steps(t, l, f, next, what, e)
		runs(t, l, f, 70, end, is, err, many)
	}
}

// P14.4: what a step writes is what layer 10 tells of its instruction: that register alone, or, of store alone, a word of memory.
func TestWrites(t *testing.T) {
	r := rand.New(rand.NewSource(9))
	for range 20000 {
		l := program(r)
		f := frameOf(r, len(l))
		got, what, _ := Step(l, f)
		if what != Ran {
			continue
		}
		x := l[f.PC]
		for i := range regs {
			if got.Regs[i] != f.Regs[i] && !slices.Equal(instr.Writes(x), []int{i}) {
				t.Errorf("%v at %v: %v", x, f, got)
			}
		}
		if got.Words != f.Words && x.Op != opcode.Store || (got.Depth != f.Depth || got.Stack != f.Stack) != (x.Op == opcode.Call || x.Op == opcode.Ret) {
			t.Errorf("%v at %v: %v", x, f, got)
		}
	}
}
