package call

import (
	"fmt"
	"math"
	"math/rand"
	"slices"
	"strings"
	"testing"

	"becket/api"
	"becket/asm"
	"becket/frame"
	"becket/interp"
	"becket/opcode"
	"becket/prog"
)

// The ends of words, the last instant, the last place, and how many there are of what a frame has, as the document tells them.
const (
	least    = -2147483648
	greatest = 2147483647
	end      = 1099511627776
	last     = 64
	regs     = 8
	calls    = 8
)

// words are the ends of the words, some that are near them, near 0 and near the ends of smaller types, and in between.
var words = []int{least, least + 1, -65536, -32769, -256, -129, -8, -1, 0, 1, 5, 6, 7, 8, 64, 127, 128, 255, 256, 32768, 65536, 1000000007, greatest - 1, greatest}

// noWords are numbers that are no words: one behind each end, such as become a word when they are cut to fewer bits, and the ends of int.
var noWords = []int{math.MinInt, -end, -1 << 32, -1<<32 + 1, least - 2, least - 1, greatest + 1, greatest + 2, 1<<32 - 1, 1 << 32, 1<<32 + 1, end, math.MaxInt - 1, math.MaxInt}

// instants are the ends of the instants, some that are near them, and in between.
var instants = []int{0, 1, 2, 255, greatest, greatest + 1, 1 << 32, end - greatest - 1, end - greatest, end - greatest + 1, end - 2, end - 1, end}

// noInstants are numbers that are no instants.
var noInstants = []int{math.MinInt, -end, least - 1, least, -1 << 32, -2, -1, end + 1, end + 2, 2 * end, 1 << 62, math.MaxInt - 1, math.MaxInt}

// kinds are those of guards, and numbers that are none, among them such as become one when they are cut to fewer bits.
var kinds = []int{1, 2, 3, 4, 5, 6, 0, 7, -1, -6, 8, 255, 256, 257, 262, 65537, 1<<32 + 1, 1<<32 + 6, math.MinInt, math.MaxInt}

// The chapter's table: of each opcode Reg, Obj, Val and Mode.
var rows = map[uint8]string{
	27: "- - [A] -", 28: "A - - -", 29: "A - - -", 30: "A B [C] -", 35: "- A [B] -", 36: "- A - -", 37: "- A - -", 39: "- A - -", 40: "A B - -", 46: "A B - -", 47: "A B - -",
	31: "- - - -", 32: "- - - -", 33: "- - - -", 34: "- - - -", 38: "- - - -", 41: "A - - B",
}

// The chapter's table: of each opcode that waits for one thing, and of each guard, the guard's kind, Obj, Val and Reg.
var waitings = map[uint8]string{
	31: "6 - [A] A", 32: "4 - after[A] -", 33: "2 A [B] -", 34: "1 A - B", 38: "3 A - -",
	42: "1 A - B", 43: "3 A - -", 44: "4 - after[A] -", 45: "5 - - -",
}

// The opcodes of what asks for guards, of what asks for none, and of what asks for nothing.
var (
	waiting = []uint8{31, 32, 33, 34, 38, 41}
	doing   = []uint8{27, 28, 29, 30, 35, 36, 37, 39, 40, 46, 47}
	silent  = []uint8{0, 1, 2, 3, 4, 5, 6, 7, 8, 9, 10, 11, 12, 13, 14, 15, 16, 17, 18, 19, 20, 21, 22, 23, 24, 25, 26}
	guarded = []uint8{42, 43, 44, 45}
)

// The plainest instructions.
var (
	nop  = of(0, 0, 0, 0)
	halt = of(1, 0, 0, 0)
	skip = of(45, 0, 0, 8)
)

// of is an instruction by its bytes.
func of(op, a, b, c uint8) api.Instr { return api.Instr{Op: op, A: a, B: b, C: c} }

// by is a guard by its fields.
func by(kind, obj, val, reg, no int) api.Guard {
	return api.Guard{Kind: kind, Obj: obj, Val: val, Reg: reg, No: no}
}

// list is a list of instructions.
func list(l ...api.Instr) []api.Instr { return l }

// times is an instruction so many times.
func times(many int, x api.Instr) []api.Instr { return slices.Repeat(list(x), many) }

// among is a program of so many instructions that do nothing, but for one at a place.
func among(many, at int, x api.Instr) []api.Instr {
	l := times(many, nop)
	l[at] = x
	return l
}

// alt is an alt with its guards.
func alt(a, b uint8, guards ...api.Instr) []api.Instr {
	return append(list(of(41, a, b, uint8(len(guards)))), guards...)
}

// code is the program of lines that are parted by a comma.
func code(t *testing.T, lines string) []api.Instr {
	t.Helper()
	l, _, e := asm.Read(strings.ReplaceAll(lines, ", ", "\n"))
	if _, bad := prog.Check(l); e != api.OK || bad != api.OK {
		t.Fatalf("%s: %d, %d", lines, e, bad)
	}
	return l
}

// start is a frame with these words in its registers.
func start(words ...int) frame.Frame {
	var f frame.Frame
	copy(f.Regs[:], words)
	return f
}

// busy is a frame in which all that may be other than 0 is, each number another one, with so many calls.
func busy(depth int) frame.Frame {
	f := frame.Frame{Bad: true, Depth: depth}
	for i := range f.Regs {
		f.Regs[i] = 1000 + 7*i
	}
	for i := range f.Words {
		f.Words[i] = -2000 - 11*i
	}
	for i := range depth {
		f.Stack[i] = 20 + 3*i
	}
	return f
}

// some are frames that may be, all at place 0: such as are at the beginning, busy ones, and such as have all numbers at their ends.
func some() []frame.Frame {
	out := []frame.Frame{{}, {Bad: true}, start(5), start(0, 1, -1, least, greatest, 2, 3, 64)}
	for _, depth := range []int{0, 1, 7, 8} {
		f := busy(depth)
		out = append(out, f)
		f.Bad = false
		out = append(out, f)
	}
	low, high := frame.Frame{Depth: calls}, frame.Frame{Bad: true, Depth: calls}
	for i := range low.Regs {
		low.Regs[i], high.Regs[i] = least, greatest
	}
	for i := range low.Words {
		low.Words[i], high.Words[i] = least, greatest
	}
	for i := range calls {
		high.Stack[i] = last
	}
	return append(out, low, high)
}

// at is a frame at a place.
func at(f frame.Frame, pc int) frame.Frame {
	f.PC = pc
	return f
}

// with is a frame with a word in a register.
func with(f frame.Frame, r, x int) frame.Frame {
	f.Regs[r] = x
	return f
}

// gone is a frame at a place, bad or not.
func gone(f frame.Frame, pc int, bad bool) frame.Frame {
	f.PC, f.Bad = pc, bad
	return f
}

// wrong are frames that may not be: in each just one number is wrong.
func wrong() []frame.Frame {
	var out []frame.Frame
	for _, f := range []frame.Frame{{}, busy(4), at(busy(7), 2)} {
		for _, pc := range []int{math.MinInt, -256, -1, last + 1, 256, 1 << 32, math.MaxInt} {
			out = append(out, at(f, pc))
		}
		for _, n := range []int{math.MinInt, least - 1, greatest + 1, 1 << 32, math.MaxInt} {
			g := f
			g.Words[0] = n
			h := f
			h.Words[15] = n
			out = append(out, with(f, 0, n), with(f, 7, n), g, h)
		}
		for _, n := range []int{math.MinInt, -1, calls + 1, 256, math.MaxInt} {
			g := f
			g.Depth = n
			h := f
			h.Depth, h.Stack[0] = max(1, f.Depth), last+1+n&255
			out = append(out, g, h)
		}
		g := f
		g.Stack[7] = 1
		out = append(out, g)
	}
	return out
}

// none are instructions that are no program: what is wrong with them is at their beginning, or further on, or of all of them.
func none() [][]api.Instr {
	out := [][]api.Instr{nil, {}, times(65, nop), times(65, of(27, 0, 0, 0)), times(300, of(38, 0, 0, 0))}
	for _, x := range []api.Instr{
		of(48, 0, 0, 0), of(255, 0, 0, 0), of(0, 1, 0, 0), of(27, 8, 0, 0), of(27, 0, 1, 0), of(28, 255, 0, 0), of(30, 0, 8, 0), of(30, 0, 0, 8), of(31, 8, 0, 0),
		of(32, 0, 0, 1), of(33, 8, 0, 0), of(33, 0, 8, 0), of(34, 0, 8, 0), of(34, 8, 0, 0), of(35, 0, 8, 0), of(36, 8, 0, 0), of(38, 8, 0, 0), of(39, 4, 0, 0),
		of(40, 0, 4, 0), of(41, 0, 0, 0), of(41, 0, 0, 1), of(41, 0, 3, 1), of(41, 8, 0, 1), of(41, 0, 0, 7), of(46, 0, 8, 0), of(47, 8, 0, 0), skip, of(42, 0, 0, 0), of(18, 5, 0, 0),
	} {
		for place := range 4 {
			out = append(out, among(4, place, x))
		}
	}
	return append(out, list(of(41, 0, 0, 2), skip), list(of(41, 0, 0, 2), skip, halt), list(of(41, 0, 0, 1), skip, skip), list(of(41, 0, 0, 1), of(45, 0, 0, 9)),
		list(of(41, 0, 0, 1), of(42, 8, 0, 8)), list(of(27, 0, 0, 0), of(18, 3, 0, 0), of(41, 0, 0, 1), skip))
}

// isWord tells whether a number is a word.
func isWord(n int) bool { return n >= least && n <= greatest }

// later is the instant that is so long behind another one, as the chapters tell it.
func later(now, d int) int {
	if d < 0 {
		return now
	}
	return min(now+d, end)
}

// cell is what one cell of the chapter's tables tells.
func cell(text string, x api.Instr, f frame.Frame, now, empty int) int {
	switch text {
	case "-":
		return empty
	case "A":
		return int(x.A)
	case "B":
		return int(x.B)
	case "[A]":
		return f.Regs[x.A]
	case "[B]":
		return f.Regs[x.B]
	case "[C]":
		return f.Regs[x.C]
	case "after[A]":
		return later(now, f.Regs[x.A])
	}
	return int(text[0] - '0')
}

// guardOf is the guard of one line of the chapter's tables.
func guardOf(x api.Instr, f frame.Frame, now, no int) api.Guard {
	c := strings.Fields(waitings[x.Op])
	return api.Guard{Kind: cell(c[0], x, f, now, 0), Obj: cell(c[1], x, f, now, 0), Val: cell(c[2], x, f, now, 0), Reg: cell(c[3], x, f, now, 0), No: no}
}

// first is the error that all three calls have, as the chapter tells it.
func first(l []api.Instr, f frame.Frame) api.Errno {
	if _, e := prog.Check(l); e != api.OK || !frame.Fine(f) {
		return 1
	}
	if f.PC >= len(l) || rows[l[f.PC].Op] == "" {
		return 13
	}
	return 0
}

// asked is what the chapter asks of Of.
func asked(l []api.Instr, f frame.Frame, now int) (Ask, api.Errno) {
	e := first(l, f)
	if now < 0 || now > end {
		e = 1
	}
	if e != 0 {
		return Ask{}, e
	}
	x := l[f.PC]
	c := strings.Fields(rows[x.Op])
	a := Ask{Op: int(x.Op), Reg: cell(c[0], x, f, now, -1), Obj: cell(c[1], x, f, now, 0), Val: cell(c[2], x, f, now, 0), Mode: cell(c[3], x, f, now, 0)}
	if waitings[x.Op] != "" {
		a.Guards = append(a.Guards, guardOf(x, f, now, 0))
	}
	if x.Op == 41 {
		for no := range int(x.C) {
			g := l[f.PC+1+no]
			if g.C == 8 || f.Regs[g.C] != 0 {
				a.Guards = append(a.Guards, guardOf(g, f, now, no))
			}
		}
	}
	return a, 0
}

// answered is what the chapter asks of Answer.
func answered(l []api.Instr, f frame.Frame, x int) (frame.Frame, api.Errno) {
	if e := first(l, f); e != 0 {
		return f, e
	}
	in := l[f.PC]
	if slices.Contains(waiting, in.Op) {
		return f, 13
	}
	g := gone(f, f.PC+1, false)
	if rows[in.Op][0] == 'A' {
		if !isWord(x) {
			return f, 8
		}
		g.Regs[in.A] = x
	}
	return g, 0
}

// woken is what the chapter asks of Wake.
func woken(l []api.Instr, f frame.Frame, g api.Guard, x int, bad bool) (frame.Frame, api.Errno) {
	if e := first(l, f); e != 0 {
		return f, e
	}
	in := l[f.PC]
	if !slices.Contains(waiting, in.Op) {
		return f, 13
	}
	if g.No < 0 || g.No > 5 || g.Reg < 0 || g.Reg > 7 || !isWord(x) {
		return f, 8
	}
	h := gone(f, f.PC+1, bad)
	if g.Kind == 6 || g.Kind == 1 && !bad {
		h.Regs[g.Reg] = x
	}
	if in.Op == 41 {
		h.Regs[in.A] = g.No
		h.PC += int(in.C)
	}
	return h, 0
}

// shown is the beginning of a list's text.
func shown(l []api.Instr) string { return fmt.Sprintf("%d, %.300s", len(l), fmt.Sprint(l)) }

// same tells whether two are asked the same.
func same(a, b Ask) bool {
	return a.Op == b.Op && a.Reg == b.Reg && a.Obj == b.Obj && a.Val == b.Val && a.Mode == b.Mode && slices.Equal(a.Guards, b.Guards)
}

// asks fails, unless Of answers so, and leaves the instructions as they are.
func asks(t *testing.T, l []api.Instr, f frame.Frame, now int, want Ask, err api.Errno) {
	t.Helper()
	before := slices.Clone(l)
	if got, e := Of(l, f, now); !same(got, want) || e != err {
		t.Errorf("Of of %s at %v, %d:\n%v, %d; want\n%v, %d", shown(l), f, now, got, e, want, err)
	}
	if !slices.Equal(l, before) {
		t.Errorf("Of of %s has written to it", shown(before))
	}
}

// answers fails, unless Answer answers so, and leaves the instructions as they are.
func answers(t *testing.T, l []api.Instr, f frame.Frame, x int, want frame.Frame, err api.Errno) {
	t.Helper()
	before := slices.Clone(l)
	if got, e := Answer(l, f, x); got != want || e != err {
		t.Errorf("Answer of %s at %v, %d:\n%v, %d; want\n%v, %d", shown(l), f, x, got, e, want, err)
	}
	if !slices.Equal(l, before) {
		t.Errorf("Answer of %s has written to it", shown(before))
	}
}

// wakes fails, unless Wake answers so, and leaves the instructions as they are.
func wakes(t *testing.T, l []api.Instr, f frame.Frame, g api.Guard, x int, bad bool, want frame.Frame, err api.Errno) {
	t.Helper()
	before := slices.Clone(l)
	if got, e := Wake(l, f, g, x, bad); got != want || e != err {
		t.Errorf("Wake of %s at %v, %v, %d, %t:\n%v, %d; want\n%v, %d", shown(l), f, g, x, bad, got, e, want, err)
	}
	if !slices.Equal(l, before) {
		t.Errorf("Wake of %s has written to it", shown(before))
	}
}

// refuses fails, unless all three calls answer this error, and nothing else, of what else may be handed in.
func refuses(t *testing.T, l []api.Instr, f frame.Frame, err api.Errno) {
	t.Helper()
	asks(t, l, f, 5, Ask{}, err)
	answers(t, l, f, 5, f, err)
	answers(t, l, f, greatest+1, f, err)
	wakes(t, l, f, api.Guard{Kind: api.In, Reg: 1}, 5, false, f, err)
	wakes(t, l, f, api.Guard{Kind: api.Join, Reg: 8, No: -1}, greatest+1, true, f, err)
}

// follows fails, unless one frame may be behind another one: at the only place to which the program goes on, with its memory and its calls.
func follows(t *testing.T, l []api.Instr, f, next frame.Frame) {
	t.Helper()
	if !slices.Equal(prog.Next(l, f.PC), []int{next.PC}) || next.Words != f.Words || next.Depth != f.Depth || next.Stack != f.Stack || !frame.Fine(next) {
		t.Errorf("%s at %v: %v", shown(l), f, next)
	}
	if _, what, e := interp.Step(l, next); what == interp.Faulted && (e == api.ErrArg || e == api.ErrCode) {
		t.Errorf("%s at %v: no instruction at %d", shown(l), f, next.PC)
	}
}

// holds fails, unless all three calls answer what the chapter asks of them, and what follows is so.
func holds(t *testing.T, l []api.Instr, f frame.Frame, now int, g api.Guard, x int, bad bool) {
	t.Helper()
	want, e := asked(l, f, now)
	asks(t, l, f, now, want, e)
	got, _ := Of(l, f, now)
	no := -1
	for _, g := range got.Guards {
		if g.No <= no || g.No > 5 || g.No > 0 && got.Op != opcode.Alt {
			t.Errorf("%s at %v: %v", shown(l), f, got.Guards)
		}
		no = g.No
	}
	next, e := answered(l, f, x)
	answers(t, l, f, x, next, e)
	if next, e := Answer(l, f, x); e == api.OK {
		follows(t, l, f, next)
	}
	next, e = woken(l, f, g, x, bad)
	wakes(t, l, f, g, x, bad, next, e)
	if next, e := Wake(l, f, g, x, bad); e == api.OK {
		follows(t, l, f, next)
	}
}

// byChance is one of a list.
func byChance[T any](r *rand.Rand, l []T) T { return l[r.Intn(len(l))] }

// byteOf is a byte that a form's letter takes, of a program of so many instructions.
func byteOf(r *rand.Rand, letter byte, many int) uint8 {
	switch letter {
	case 'i', 'j':
		return uint8(r.Intn(256))
	case 's', 'n':
		return uint8(1 + r.Intn(6))
	case 't':
		return uint8(r.Intn(many + 1))
	case 'g':
		return uint8(r.Intn(regs + 1))
	case 'm':
		return uint8(r.Intn(3))
	case 'k':
		return uint8(r.Intn(4))
	case '-':
		return 0
	}
	return uint8(r.Intn(8)) // a register, a channel, a barrier, a program
}

// instrOf is an instruction of an opcode, fit for a program of so many.
func instrOf(r *rand.Rand, op uint8, many int) api.Instr {
	form := opcode.Form(int(op))
	return of(op, byteOf(r, form[0], many), byteOf(r, form[1], many), byteOf(r, form[2], many))
}

// program is a program by chance: mostly of what asks for something.
func program(r *rand.Rand) []api.Instr {
	many := 1 + r.Intn(last)
	for {
		var l []api.Instr
		for len(l) < many {
			switch n := r.Intn(20); {
			case n < 6 && many-len(l) > 6:
				var guards []api.Instr
				for range 1 + r.Intn(6) {
					guards = append(guards, instrOf(r, byChance(r, guarded), many))
				}
				l = append(l, alt(byteOf(r, 'r', many), byteOf(r, 'm', many), guards...)...)
			case n < 10:
				l = append(l, instrOf(r, byChance(r, waiting[:5]), many))
			case n < 16:
				l = append(l, instrOf(r, byChance(r, doing), many))
			default:
				l = append(l, instrOf(r, byChance(r, silent), many))
			}
		}
		if _, e := prog.Check(l); e == api.OK { // else a jump leads to a guard
			return l
		}
	}
}

// frameOf is a frame by chance: mostly with some noughts among its registers, and within a program of so many.
func frameOf(r *rand.Rand, many int) frame.Frame {
	f := frame.Frame{PC: r.Intn(many), Bad: r.Intn(2) == 0, Depth: r.Intn(calls + 1)}
	for i := range f.Regs {
		f.Regs[i] = byChance(r, []int{0, 0, r.Intn(100), byChance(r, words), int(int32(r.Uint32()))})
	}
	for i := range f.Words {
		f.Words[i] = byChance(r, words)
	}
	for i := range f.Depth {
		f.Stack[i] = r.Intn(many + 1)
	}
	if r.Intn(10) == 0 {
		f.PC = r.Intn(last + 1)
	}
	return f
}

// anyGuard is a guard by chance: mostly one by which somebody may be woken.
func anyGuard(r *rand.Rand) api.Guard {
	g := api.Guard{Kind: 1 + r.Intn(6), Obj: r.Intn(8), Val: byChance(r, words), Reg: r.Intn(8), No: r.Intn(6)}
	switch r.Intn(12) {
	case 0:
		g.Kind = byChance(r, kinds)
	case 1:
		g.Obj, g.Val = byChance(r, noWords), byChance(r, noInstants)
	case 2:
		g.Reg = byChance(r, []int{-1, 8, 256, 1 << 32, math.MinInt, math.MaxInt})
	case 3:
		g.No = byChance(r, []int{-1, 6, 256, 1 << 32, math.MinInt, math.MaxInt})
	}
	return g
}

// anyNumber is a number by chance: mostly one of those that may be.
func anyNumber(r *rand.Rand, may, mayNot []int) int {
	if r.Intn(12) == 0 {
		return byChance(r, mayNot)
	}
	return byChance(r, may)
}

// The chapter's example.
func TestExamples(t *testing.T) {
	f, _ := frame.New(0)
	asks(t, list(of(34, 0, 1, 0)), f, 0, Ask{34, -1, 0, 0, 0, []api.Guard{{Kind: 1, Obj: 0, Reg: 1}}}, api.OK)
}

// What these tests tell of opcodes, of programs and of frames is what the layers below tell of them.
func TestTable(t *testing.T) {
	for op := range 256 {
		class, x := opcode.Class(op), uint8(op)
		if slices.Contains(silent, x) != (class == 0 || class == 1 || class == 5) || slices.Contains(guarded, x) != (class == 3) || (rows[x] != "") != (class == 2 || class == 4) {
			t.Errorf("%d: class %d", op, class)
		}
		if slices.Contains(append(waiting, 39), x) != (class == 2) || slices.Contains(doing, x) != (class == 4 || op == 39) {
			t.Errorf("%d: class %d", op, class)
		}
	}
	for _, l := range none() {
		if _, e := prog.Check(l); e == api.OK {
			t.Errorf("%s: a program", shown(l))
		}
	}
	for _, f := range wrong() {
		if frame.Fine(f) {
			t.Errorf("%v: may be", f)
		}
	}
	for _, f := range some() {
		if !frame.Fine(f) {
			t.Errorf("%v: may not be", f)
		}
	}
}

// P15.1: each row of the table, written out: what it tells, and 0, none and -1 of Reg where it tells nothing.
func TestOfTable(t *testing.T) {
	for _, c := range []struct {
		lines string
		want  Ask
	}{
		{"emit r3", Ask{27, -1, 0, 1021, 0, nil}},
		{"emit r0", Ask{27, -1, 0, 1000, 0, nil}},
		{"now r4", Ask{28, 4, 0, 0, 0, nil}},
		{"now r0", Ask{28, 0, 0, 0, 0, nil}},
		{"me r5", Ask{29, 5, 0, 0, 0, nil}},
		{"me r7", Ask{29, 7, 0, 0, 0, nil}},
		{"spawn r1 p6 r2", Ask{30, 1, 6, 1014, 0, nil}},
		{"spawn r7 p0 r7", Ask{30, 7, 0, 1049, 0, nil}},
		{"poison c6 r7", Ask{35, -1, 6, 1049, 0, nil}},
		{"poison c0 r1", Ask{35, -1, 0, 1007, 0, nil}},
		{"enrol b7", Ask{36, -1, 7, 0, 0, nil}},
		{"enrol b0", Ask{36, -1, 0, 0, 0, nil}},
		{"resign b3", Ask{37, -1, 3, 0, 0, nil}},
		{"fall k3", Ask{39, -1, 3, 0, 0, nil}},
		{"fall k0", Ask{39, -1, 0, 0, 0, nil}},
		{"flush r2 k1", Ask{40, 2, 1, 0, 0, nil}},
		{"flush r0 k3", Ask{40, 0, 3, 0, 0, nil}},
		{"phase r7 b2", Ask{46, 7, 2, 0, 0, nil}},
		{"phase r0 b7", Ask{46, 0, 7, 0, 0, nil}},
		{"size r6 b4", Ask{47, 6, 4, 0, 0, nil}},
		{"join r6", Ask{31, -1, 0, 0, 0, []api.Guard{by(6, 0, 1042, 6, 0)}}},
		{"join r0", Ask{31, -1, 0, 0, 0, []api.Guard{by(6, 0, 1000, 0, 0)}}},
		{"sleep r2", Ask{32, -1, 0, 0, 0, []api.Guard{by(4, 0, 1064, 0, 0)}}},
		{"send c7 r3", Ask{33, -1, 0, 0, 0, []api.Guard{by(2, 7, 1021, 0, 0)}}},
		{"send c0 r0", Ask{33, -1, 0, 0, 0, []api.Guard{by(2, 0, 1000, 0, 0)}}},
		{"recv c5 r4", Ask{34, -1, 0, 0, 0, []api.Guard{by(1, 5, 0, 4, 0)}}},
		{"recv c0 r7", Ask{34, -1, 0, 0, 0, []api.Guard{by(1, 0, 0, 7, 0)}}},
		{"sync b6", Ask{38, -1, 0, 0, 0, []api.Guard{by(3, 6, 0, 0, 0)}}},
		{"sync b0", Ask{38, -1, 0, 0, 0, []api.Guard{by(3, 0, 0, 0, 0)}}},
		{"alt r1 any 4, gin c3 r2, gbar b5, gtime r6, gskip", Ask{41, 1, 0, 0, 2, []api.Guard{by(1, 3, 0, 2, 0), by(3, 5, 0, 0, 1), by(4, 0, 1092, 0, 2), by(5, 0, 0, 0, 3)}}},
		{"alt r7 fair 2, gskip if r1, gbar b7 if r2", Ask{41, 7, 0, 0, 1, []api.Guard{by(5, 0, 0, 0, 0), by(3, 7, 0, 0, 1)}}},
		{"alt r0 pri 1, gin c7 r7", Ask{41, 0, 0, 0, 0, []api.Guard{by(1, 7, 0, 7, 0)}}},
	} {
		l := code(t, c.lines)
		asks(t, l, busy(2), 50, c.want, api.OK)
		for ahead := range last - len(l) + 1 {
			asks(t, append(times(ahead, nop), l...), at(busy(2), ahead), 50, c.want, api.OK)
			asks(t, slices.Concat(times(ahead, nop), l, times(last-len(l)-ahead, halt)), at(busy(2), ahead), 50, c.want, api.OK)
		}
	}
}

// P15.1: what is asked, of all bytes that each of the instructions may have, held against a second reading of the table.
func TestOfBytes(t *testing.T) {
	letters := map[byte]int{'r': 8, 'c': 8, 'b': 8, 'p': 8, 'k': 4, '-': 1}
	for _, op := range append(slices.Clone(doing), waiting[:5]...) {
		form := opcode.Form(int(op))
		for a := range letters[form[0]] {
			for b := range letters[form[1]] {
				for c := range letters[form[2]] {
					x := of(op, uint8(a), uint8(b), uint8(c))
					for _, f := range some() {
						holds(t, list(x), f, 77, api.Guard{Kind: 1 + (a+b)%6, Reg: b % 8, No: a % 6}, 9, c%2 == 0)
					}
				}
			}
		}
	}
}

// P15.1: a word is told as it is, from end to end.
func TestOfWords(t *testing.T) {
	for _, n := range words {
		for r := range uint8(regs) {
			f := with(busy(1), int(r), n)
			asks(t, list(of(27, r, 0, 0)), f, 0, Ask{Op: 27, Reg: -1, Val: n}, api.OK)
			asks(t, list(of(30, 3, 2, r)), f, 0, Ask{Op: 30, Reg: 3, Obj: 2, Val: n}, api.OK)
			asks(t, list(of(35, 4, r, 0)), f, 0, Ask{Op: 35, Reg: -1, Obj: 4, Val: n}, api.OK)
			asks(t, list(of(31, r, 0, 0)), f, 0, Ask{Op: 31, Reg: -1, Guards: []api.Guard{{Kind: 6, Val: n, Reg: int(r)}}}, api.OK)
			asks(t, list(of(33, 6, r, 0)), f, 0, Ask{Op: 33, Reg: -1, Guards: []api.Guard{{Kind: 2, Obj: 6, Val: n}}}, api.OK)
		}
	}
}

// waitsTill fails, unless sleep, and gtime in an alt, wait for this instant.
func waitsTill(t *testing.T, now, n, want int) {
	t.Helper()
	for r := range regs {
		f := with(busy(1), r, n)
		asks(t, list(of(32, uint8(r), 0, 0)), f, now, Ask{Op: 32, Reg: -1, Guards: []api.Guard{{Kind: 4, Val: want}}}, api.OK)
		asks(t, alt(3, 1, skip, of(44, uint8(r), 0, 8)), f, now, Ask{Op: 41, Reg: 3, Mode: 1, Guards: []api.Guard{{Kind: 5}, {Kind: 4, Val: want, No: 1}}}, api.OK)
	}
}

// P15.1: deadlines, written out: of words at both ends, of 0, below 0, and behind the last instant; and of all edge words from all edge instants.
func TestDeadlines(t *testing.T) {
	for _, c := range []struct{ now, n, want int }{
		{0, 0, 0}, {0, 1, 1}, {0, -1, 0}, {0, least, 0}, {0, greatest, 2147483647}, {5, 3, 8}, {5, -3, 5}, {5, 0, 5}, {7, least, 7},
		{greatest, greatest, 4294967294}, {2147483648, least, 2147483648}, {2147483648, greatest, 4294967295},
		{1099511627775, 0, 1099511627775}, {1099511627775, 1, 1099511627776}, {1099511627775, 2, 1099511627776}, {1099511627775, -1, 1099511627775},
		{1099511627776, 0, 1099511627776}, {1099511627776, 1, 1099511627776}, {1099511627776, -1, 1099511627776}, {1099511627776, greatest, 1099511627776}, {1099511627776, least, 1099511627776},
		{1097364144128, greatest, 1099511627775}, {1097364144129, greatest, 1099511627776}, {1097364144130, greatest, 1099511627776},
	} {
		waitsTill(t, c.now, c.n, c.want)
	}
	for _, now := range instants {
		for _, n := range words {
			waitsTill(t, now, n, later(now, n))
		}
	}
}

// P15.1: now is an instant, be it needed or not; what is no instant is told ahead of what asks nothing.
func TestNow(t *testing.T) {
	r := rand.New(rand.NewSource(15))
	for _, op := range slices.Concat(silent, doing, waiting) {
		l := list(instrOf(r, op, 1))
		if op == 41 {
			l = alt(2, 1, skip, of(44, 3, 0, 8), of(42, 1, 2, 8))
		}
		for _, f := range some() {
			for _, now := range instants {
				want, e := asked(l, f, now)
				asks(t, l, f, now, want, e)
			}
			for _, now := range noInstants {
				asks(t, l, f, now, Ask{}, api.ErrArg)
				asks(t, l, at(f, len(l)), now, Ask{}, api.ErrArg)
				asks(t, l, at(f, last), now, Ask{}, api.ErrArg)
			}
		}
	}
}

// P15.1: an alt of one guard, of each kind: it is there if its C is 8, or what is in that register is not 0.
func TestAltOne(t *testing.T) {
	for _, c := range []struct {
		x    api.Instr
		want api.Guard
	}{
		{of(42, 3, 5, 8), api.Guard{Kind: 1, Obj: 3, Reg: 5}}, {of(42, 0, 0, 8), api.Guard{Kind: 1}}, {of(42, 7, 7, 8), api.Guard{Kind: 1, Obj: 7, Reg: 7}},
		{of(43, 6, 0, 8), api.Guard{Kind: 3, Obj: 6}}, {of(43, 0, 0, 8), api.Guard{Kind: 3}}, {of(44, 2, 0, 8), api.Guard{Kind: 4, Val: 1114}}, {skip, api.Guard{Kind: 5}},
	} {
		for mode := range 3 {
			want := Ask{Op: 41, Reg: 7 - mode, Mode: mode, Guards: []api.Guard{c.want}}
			asks(t, alt(uint8(7-mode), uint8(mode), c.x), busy(1), 100, want, api.OK)
			asks(t, alt(uint8(7-mode), uint8(mode), c.x), with(start(0, 0, 1014), 7, 0), 100, want, api.OK)
			for _, r := range []int{0, 1, 3, 4, 5, 6, 7} { // not 2, by which gtime has its deadline
				x := c.x
				x.C = uint8(r)
				for _, n := range words {
					kept := want
					if n == 0 {
						kept.Guards = nil
					}
					asks(t, alt(uint8(7-mode), uint8(mode), x), with(busy(1), r, n), 100, kept, api.OK)
				}
			}
		}
	}
	for _, n := range words { // the register of the span is that of the condition, too
		want := Ask{Op: 41, Reg: 1, Guards: []api.Guard{{Kind: 4, Val: later(9, n)}}}
		if n == 0 {
			want.Guards = nil
		}
		asks(t, alt(1, 0, of(44, 2, 0, 2)), with(busy(1), 2, n), 9, want, api.OK)
	}
}

// P15.1: alts of each number of guards, each guard of each kind, there for ever, there by a register, or left out: those that are left have their numbers among all.
func TestAltMany(t *testing.T) {
	r := rand.New(rand.NewSource(3))
	for many := 1; many <= 6; many++ {
		ways := int(math.Pow(3, float64(many)))
		for way := range ways {
			var guards []api.Instr
			var want []api.Guard
			f := busy(1)
			for no := range many {
				x := of(42+uint8((no+way)%4), 0, 0, 8)
				g := api.Guard{Kind: []int{1, 3, 4, 5}[x.Op-42], No: no}
				switch g.Kind {
				case 1:
					x.A, x.B, g.Obj, g.Reg = uint8(no), 7, no, 7
				case 3:
					x.A, g.Obj = uint8(7-no), 7-no
				case 4:
					x.A, g.Val = 7, 1059
				}
				there := way / int(math.Pow(3, float64(no))) % 3
				if there > 0 {
					x.C = uint8(no)
					f.Regs[no] = byChance(r, []int{1, -1, least, greatest, 256, 65536})
				}
				if there == 2 {
					f.Regs[no] = 0
				} else {
					want = append(want, g)
				}
				guards = append(guards, x)
			}
			asks(t, alt(6, 2, guards...), f, 10, Ask{Op: 41, Reg: 6, Mode: 2, Guards: want}, api.OK)
		}
	}
}

// P15.1: all guards of an alt left out is no error of Of: there are none.
func TestAltNone(t *testing.T) {
	for many := 1; many <= 6; many++ {
		for r := range uint8(regs) {
			for _, op := range guarded {
				x := of(op, 0, 0, r)
				l := alt(5, 1, slices.Repeat(list(x), many)...)
				asks(t, l, with(busy(3), int(r), 0), 5, Ask{Op: 41, Reg: 5, Mode: 1}, api.OK)
			}
		}
	}
}

// P15.1: an alt has the guards behind it alone, not those of another alt ahead or behind.
func TestAltOwn(t *testing.T) {
	l := code(t, "alt r0 pri 1, gin c1 r1, alt r2 fair 2, gbar b3, gin c4 r5, alt r6 any 1, gskip, sync b7, recv c7 r7")
	for _, c := range []struct {
		at   int
		want Ask
	}{
		{0, Ask{41, 0, 0, 0, 0, []api.Guard{by(1, 1, 0, 1, 0)}}},
		{2, Ask{41, 2, 0, 0, 1, []api.Guard{by(3, 3, 0, 0, 0), by(1, 4, 0, 5, 1)}}},
		{5, Ask{41, 6, 0, 0, 2, []api.Guard{by(5, 0, 0, 0, 0)}}},
		{7, Ask{38, -1, 0, 0, 0, []api.Guard{by(3, 7, 0, 0, 0)}}},
		{8, Ask{34, -1, 0, 0, 0, []api.Guard{by(1, 7, 0, 7, 0)}}},
	} {
		asks(t, l, at(busy(1), c.at), 0, c.want, api.OK)
	}
	for _, guard := range []int{1, 3, 4, 6} {
		refuses(t, l, at(busy(1), guard), api.ErrState)
	}
}

// P15.2: each instruction that is answered, written out: what its register gets; Bad is not any more.
func TestAnswerTable(t *testing.T) {
	for _, c := range []struct {
		line string
		reg  int
	}{
		{"now r0", 0}, {"now r7", 7}, {"me r1", 1}, {"me r6", 6}, {"spawn r2 p5 r3", 2}, {"spawn r4 p0 r4", 4}, {"flush r3 k2", 3}, {"flush r0 k1", 0}, {"phase r5 b4", 5}, {"phase r7 b0", 7}, {"size r6 b2", 6}, {"size r0 b3", 0},
		{"emit r3", -1}, {"emit r0", -1}, {"poison c2 r1", -1}, {"enrol b1", -1}, {"resign b1", -1}, {"fall k1", -1},
	} {
		l := code(t, c.line)
		for _, f := range some() {
			for _, x := range words {
				want := gone(f, 1, false)
				if c.reg >= 0 {
					want = with(want, c.reg, x)
				}
				answers(t, l, f, x, want, api.OK)
				answers(t, slices.Concat(times(4, nop), l, times(3, halt)), at(f, 4), x, at(want, 5), api.OK)
			}
			for _, x := range noWords {
				if c.reg >= 0 {
					answers(t, l, f, x, f, api.ErrRange)
				} else {
					answers(t, l, f, x, gone(f, 1, false), api.OK)
				}
			}
		}
	}
}

// P15.2: x at both ends of a word and one behind each, where what is asked has a Reg and where it has none.
func TestAnswerEnds(t *testing.T) {
	f := frame.Frame{Bad: true, Regs: [8]int{9, 8, 7}}
	me, emit := code(t, "me r1"), code(t, "emit r1")
	answers(t, me, f, -2147483648, frame.Frame{PC: 1, Regs: [8]int{9, -2147483648, 7}}, api.OK)
	answers(t, me, f, 2147483647, frame.Frame{PC: 1, Regs: [8]int{9, 2147483647, 7}}, api.OK)
	answers(t, me, f, -2147483649, f, api.ErrRange)
	answers(t, me, f, 2147483648, f, api.ErrRange)
	for _, x := range []int{-2147483649, -2147483648, 0, 2147483647, 2147483648} {
		answers(t, emit, f, x, frame.Frame{PC: 1, Regs: [8]int{9, 8, 7}}, api.OK)
	}
}

// P15.2: who waits for guards is not answered, be there guards or not, whatever x is.
func TestAnswerWaits(t *testing.T) {
	for _, l := range [][]api.Instr{
		code(t, "join r1"), code(t, "sleep r1"), code(t, "send c1 r1"), code(t, "recv c1 r1"), code(t, "sync b1"),
		code(t, "alt r1 pri 1, gskip"), code(t, "alt r0 any 2, gin c1 r1 if r7, gbar b1 if r7"), code(t, "alt r7 fair 1, gtime r7 if r7"),
	} {
		for _, f := range some() {
			f.Regs[7] = 0
			for _, x := range slices.Concat(words, noWords) {
				answers(t, l, f, x, f, api.ErrState)
			}
		}
	}
}

// P15.3: each of the six instructions, woken by each kind of guard, and by numbers that are no kind, bad and not.
func TestWakeKinds(t *testing.T) {
	for _, c := range []struct {
		lines string
		reg   int // alt's own, or -1
		pc    int
	}{
		{"join r1", -1, 1}, {"sleep r2", -1, 1}, {"send c3 r3", -1, 1}, {"recv c0 r4", -1, 1}, {"sync b0", -1, 1},
		{"alt r5 pri 1, gskip", 5, 2}, {"alt r0 any 3, gin c0 r1 if r7, gbar b1 if r6, gtime r2", 0, 4}, {"alt r7 fair 6, gskip, gskip, gskip, gskip, gskip, gskip", 7, 7},
	} {
		l := code(t, c.lines)
		for _, kind := range kinds {
			for no := range 6 {
				for r := range regs {
					for _, bad := range []bool{false, true} {
						f := busy(no)
						f.Bad = r%2 == 0
						want := gone(f, c.pc, bad)
						if kind == api.Join || kind == api.In && !bad {
							want.Regs[r] = 77
						}
						if c.reg >= 0 {
							want.Regs[c.reg] = no
						}
						wakes(t, l, f, api.Guard{Kind: kind, Reg: r, No: no}, 77, bad, want, api.OK)
						wakes(t, l, f, api.Guard{Kind: kind, Obj: 5, Val: 6, Reg: r, No: no}, 77, bad, want, api.OK)
						wakes(t, l, f, api.Guard{Kind: kind, Obj: math.MinInt, Val: math.MaxInt, Reg: r, No: no}, 77, bad, want, api.OK)
					}
				}
			}
		}
	}
}

// P15.3: some that are woken, written out.
func TestWakeTable(t *testing.T) {
	f := frame.Frame{Bad: true, Regs: [8]int{9, 8, 7}, Words: [16]int{3: 4}, Depth: 1, Stack: [8]int{5}}
	end := func(pc int, bad bool, words ...int) frame.Frame {
		g := frame.Frame{PC: pc, Bad: bad, Words: f.Words, Depth: 1, Stack: f.Stack}
		copy(g.Regs[:], words)
		return g
	}
	one := code(t, "recv c0 r1")
	wakes(t, one, f, api.Guard{Kind: 1, Reg: 1}, 33, false, end(1, false, 9, 33, 7), api.OK)
	wakes(t, one, f, api.Guard{Kind: 1, Reg: 1}, 33, true, end(1, true, 9, 8, 7), api.OK)
	wakes(t, one, f, api.Guard{}, 33, false, end(1, false, 9, 8, 7), api.OK)
	wakes(t, one, f, api.Guard{Kind: 6, Reg: 2}, 33, true, end(1, true, 9, 8, 33), api.OK)
	many := code(t, "alt r0 pri 3, gin c0 r1, gtime r2, gbar b0, halt")
	wakes(t, many, f, api.Guard{Kind: 1, Reg: 1}, -5, false, end(4, false, 0, -5, 7), api.OK)
	wakes(t, many, f, api.Guard{Kind: 1, Reg: 1}, -5, true, end(4, true, 0, 8, 7), api.OK)
	wakes(t, many, f, api.Guard{Kind: 4, Val: 7, No: 1}, 0, false, end(4, false, 1, 8, 7), api.OK)
	wakes(t, many, f, api.Guard{Kind: 3, No: 2}, 0, false, end(4, false, 2, 8, 7), api.OK)
	wakes(t, many, f, api.Guard{Kind: 3, No: 5, Reg: 2}, 6, true, end(4, true, 5, 8, 7), api.OK)
}

// P15.3: No, Reg and x at their ends, and behind them: each is asked of each kind, be it needed or not.
func TestWakeEnds(t *testing.T) {
	for _, lines := range []string{"join r1", "sleep r2", "send c3 r3", "recv c0 r4", "sync b0", "alt r5 pri 1, gskip", "alt r0 any 2, gin c0 r1 if r7, gbar b1 if r6"} {
		l := code(t, lines)
		for _, kind := range kinds {
			for _, bad := range []bool{false, true} {
				f := busy(3)
				goes := func(g api.Guard, x int, fine bool) {
					t.Helper()
					g.Kind = kind
					want, e := woken(l, f, g, x, bad)
					if fine != (e == api.OK) {
						t.Fatalf("%v, %d: %d", g, x, e)
					}
					wakes(t, l, f, g, x, bad, want, e)
				}
				for _, n := range []int{0, 1, 4, 5} {
					goes(api.Guard{No: n}, 1, true)
				}
				for _, n := range []int{0, 1, 6, 7} {
					goes(api.Guard{Reg: n}, 1, true)
				}
				for _, n := range []int{math.MinInt, -1 << 32, -256, -6, -1, 6, 7, 8, 255, 256, 1 << 32, math.MaxInt} {
					goes(api.Guard{No: n}, 1, false)
				}
				for _, n := range []int{math.MinInt, -1 << 32, -256, -8, -1, 8, 9, 255, 256, 1 << 32, math.MaxInt} {
					goes(api.Guard{Reg: n}, 1, false)
				}
				for _, n := range words {
					goes(api.Guard{Reg: 2, No: 3}, n, true)
				}
				for _, n := range noWords {
					goes(api.Guard{Reg: 2, No: 3}, n, false)
				}
			}
		}
	}
}

// P15.3: a guard's register that is alt's register, too, gets the guard's number last.
func TestWakeSame(t *testing.T) {
	for r := range regs {
		for no := range 6 {
			l := append(alt(uint8(r), 0, of(42, 1, uint8(r), 8), of(42, 2, uint8(r), 8)), halt)
			for _, f := range some() {
				for _, kind := range []int{api.In, api.Join} {
					wakes(t, l, f, api.Guard{Kind: kind, Obj: 1, Reg: r, No: no}, 1234, false, gone(with(f, r, no), 3, false), api.OK)
					wakes(t, l, f, api.Guard{Kind: kind, Obj: 1, Reg: r, No: no}, 1234, true, gone(with(f, r, no), 3, true), api.OK)
				}
			}
		}
	}
}

// P15.3: who waits for no guards is not woken, whatever else is handed in.
func TestWakeNot(t *testing.T) {
	r := rand.New(rand.NewSource(8))
	for _, op := range doing {
		for _, f := range some() {
			l := list(instrOf(r, op, 1))
			for _, g := range []api.Guard{{}, {Kind: 1}, {Kind: 6, Reg: 7, No: 5}, {Kind: 1, Reg: 8}, {Kind: 1, No: 6}, {Reg: -1, No: -1}} {
				for _, x := range []int{0, least, greatest, least - 1, greatest + 1} {
					wakes(t, l, f, g, x, false, f, api.ErrState)
					wakes(t, l, f, g, x, true, f, api.ErrState)
				}
			}
		}
	}
}

// P15.2, P15.3: what is asked at a program's end leads behind it, up to the last place that there is.
func TestEnd(t *testing.T) {
	for many := 1; many <= last; many++ {
		f := at(busy(2), many-1)
		answers(t, append(times(many-1, nop), of(28, 1, 0, 0)), f, 5, gone(with(f, 1, 5), many, false), api.OK)
		answers(t, append(times(many-1, nop), of(39, 1, 0, 0)), f, 5, gone(f, many, false), api.OK)
		wakes(t, append(times(many-1, nop), of(34, 1, 1, 0)), f, api.Guard{Kind: 1, Reg: 1}, 5, false, gone(with(f, 1, 5), many, false), api.OK)
		for guards := 1; guards <= 6 && guards < many; guards++ {
			f := at(busy(2), many-1-guards)
			l := append(times(f.PC, nop), alt(3, 1, slices.Repeat(list(skip), guards)...)...)
			wakes(t, l, f, api.Guard{Kind: 5, No: guards - 1}, 5, true, gone(with(f, 3, guards-1), many, true), api.OK)
		}
	}
}

// P15.1: what is no program, and a frame that may not be, is told ahead of all else.
func TestWrong(t *testing.T) {
	for _, l := range none() {
		for _, f := range slices.Concat(some(), wrong()) {
			refuses(t, l, f, api.ErrArg)
			asks(t, l, f, -1, Ask{}, api.ErrArg)
			asks(t, l, f, end+1, Ask{}, api.ErrArg)
		}
		for pc := range last + 1 {
			refuses(t, l, at(busy(3), pc), api.ErrArg)
		}
	}
	r := rand.New(rand.NewSource(2))
	for _, op := range slices.Concat(silent, doing, waiting[:5]) {
		for _, f := range wrong() {
			x := instrOf(r, op, 1)
			refuses(t, list(x), f, api.ErrArg)
			refuses(t, times(last, x), f, api.ErrArg)
			asks(t, times(last, x), f, -1, Ask{}, api.ErrArg)
		}
	}
	for _, f := range wrong() {
		refuses(t, alt(1, 0, skip, skip), f, api.ErrArg)
	}
}

// P15.1: nothing is asked by what the process does alone, what leads on, what ends it, guards, and behind the program.
func TestSilent(t *testing.T) {
	r := rand.New(rand.NewSource(4))
	for _, op := range silent {
		for range 8 {
			x := instrOf(r, op, 1)
			for _, f := range some() {
				refuses(t, list(x), f, api.ErrState)
				refuses(t, list(halt, x, halt), at(f, 1), api.ErrState)
			}
		}
	}
	for many := 1; many <= 6; many++ {
		for _, op := range guarded {
			for _, c := range []uint8{0, 7, 8} {
				l := append(alt(1, 0, times(many, of(op, 0, 0, c))...), of(27, 0, 0, 0))
				for place := 1; place <= many; place++ {
					refuses(t, l, at(busy(1), place), api.ErrState)
				}
			}
		}
	}
	for many := 1; many <= last; many++ {
		for _, x := range []api.Instr{nop, halt, of(27, 0, 0, 0), of(38, 0, 0, 0)} {
			for pc := many; pc <= last; pc++ {
				refuses(t, times(many, x), at(busy(2), pc), api.ErrState)
			}
		}
	}
}

// P15.1: instructions that fault when they are done ask nothing, by whatever they fault.
func TestFaulty(t *testing.T) {
	for _, line := range []string{"div r1 r2 r0", "rem r0 r0 r0", "load r1 r7", "store r7 r1", "ret", "fail 1", "fail 255", "call @0"} {
		f := busy(calls)
		if line == "ret" {
			f = busy(0)
		}
		f.Regs[0] = 0
		refuses(t, code(t, line), f, api.ErrState)
	}
}

// P15.4: who goes on asks, or does, what stands there: a small program is run from its beginning to its end.
func TestThrough(t *testing.T) {
	l := code(t, "me r1, emit r1, recv c2 r3, alt r4 fair 3, gin c0 r5 if r7, gtime r3, gskip, spawn r6 p1 r4, join r6, fall k1")
	f, _ := frame.New(-3)
	run := func(now int, want Ask) {
		t.Helper()
		f, _, _, _ = interp.Run(l, f, 100)
		asks(t, l, f, now, want, api.OK)
	}
	answer := func(x int) { f, _ = Answer(l, f, x) }
	wake := func(g api.Guard, x int, bad bool) { f, _ = Wake(l, f, g, x, bad) }
	run(0, Ask{Op: 29, Reg: 1})
	answer(4097)
	run(0, Ask{Op: 27, Reg: -1, Val: 4097})
	answer(0)
	run(1, Ask{Op: 34, Reg: -1, Guards: []api.Guard{{Kind: 1, Obj: 2, Reg: 3}}})
	wake(api.Guard{Kind: 1, Obj: 2, Reg: 3}, 40, false)
	run(2, Ask{Op: 41, Reg: 4, Mode: 1, Guards: []api.Guard{{Kind: 4, Val: 42, No: 1}, {Kind: 5, No: 2}}})
	wake(api.Guard{Kind: 5, No: 2}, 0, false)
	run(3, Ask{Op: 30, Reg: 6, Obj: 1, Val: 2})
	answer(4098)
	run(4, Ask{Op: 31, Reg: -1, Guards: []api.Guard{{Kind: 6, Val: 4098, Reg: 6}}})
	wake(api.Guard{Kind: 6, Val: 4098, Reg: 6}, 9, false)
	run(5, Ask{Op: 39, Reg: -1, Obj: 1})
	answer(0)
	if _, what, e := interp.Step(l, f); what != interp.Ended || e != api.OK || f != (frame.Frame{PC: 10, Regs: [8]int{-3, 4097, 0, 40, 2, 0, 9}}) {
		t.Errorf("%v, %d, %d", f, what, e)
	}
}

// R3, R4: guards that were answered are in new memory: who writes to them changes no other answer, and nothing is kept.
func TestNewMemory(t *testing.T) {
	for _, lines := range []string{"recv c1 r2", "join r3", "alt r4 any 6, gskip, gin c1 r2, gtime r3, gbar b4, gskip, gin c5 r6"} {
		l := code(t, lines)
		one, _ := Of(l, busy(1), 7)
		two, _ := Of(l, busy(1), 7)
		before := slices.Clone(two.Guards)
		for i := range one.Guards {
			one.Guards[i] = api.Guard{Kind: 9, Obj: 9, Val: 9, Reg: 9, No: 9}
		}
		_ = append(one.Guards, api.Guard{Kind: 8})
		if !slices.Equal(two.Guards, before) || len(before) == 0 {
			t.Errorf("%s: %v; want %v", lines, two.Guards, before)
		}
		want, _ := asked(l, busy(1), 7)
		asks(t, l, busy(1), 7, want, api.OK)
	}
}

// P15.1 to P15.4: all small programs of picked instructions, from a few frames, at all places.
func TestSmall(t *testing.T) {
	picked := list(nop, halt, of(23, 0, 0, 0), of(26, 5, 0, 0), of(18, 1, 0, 0), of(27, 1, 0, 0), of(28, 2, 0, 0), of(33, 1, 2, 0), of(34, 2, 1, 0), of(31, 1, 0, 0), of(38, 3, 0, 0), of(39, 1, 0, 0),
		of(41, 0, 0, 1), of(41, 1, 2, 2), skip, of(45, 0, 0, 0), of(42, 1, 1, 0), of(44, 1, 0, 8))
	frames := []frame.Frame{{}, start(15, 2), at(busy(8), 1), {PC: 2, Bad: true, Regs: [8]int{0, 16}}, {PC: 4}}
	guards := []api.Guard{{Kind: 1, Reg: 1}, {Kind: 6, Reg: 0, No: 5}, {No: 6}}
	var grow func(l []api.Instr)
	grow = func(l []api.Instr) {
		for i, f := range frames {
			holds(t, l, f, 10*i, guards[(i+len(l))%3], i-2, i%2 == 0)
		}
		if len(l) < 3 {
			for _, x := range picked {
				grow(append(l, x))
			}
		}
	}
	grow(make([]api.Instr, 0, 3))
}

// P15.1 to P15.4: programs and frames by chance, held against a second reading; and all kinds of what is asked do come.
func TestChance(t *testing.T) {
	r := rand.New(rand.NewSource(44))
	var came [256]int
	for range 40000 {
		l := program(r)
		f := frameOf(r, len(l))
		if first(l, f) == api.OK {
			came[l[f.PC].Op]++
		}
		holds(t, l, f, anyNumber(r, instants, noInstants), anyGuard(r), anyNumber(r, words, noWords), r.Intn(2) == 0)
	}
	for op := range rows {
		if came[op] < 300 {
			t.Errorf("%d came %d times", op, came[op])
		}
	}
}

// P15.1 to P15.4: programs of any instructions, be they programs or not, and frames that may be or may not.
func TestAnything(t *testing.T) {
	r := rand.New(rand.NewSource(7))
	bad := wrong()
	for range 20000 {
		l := program(r)
		f := frameOf(r, len(l))
		switch r.Intn(4) {
		case 0:
			f = byChance(r, bad)
		case 1:
			l[r.Intn(len(l))] = of(uint8(r.Intn(60)), uint8(r.Intn(70)), uint8(r.Intn(70)), uint8(r.Intn(10)))
		case 2:
			l = l[r.Intn(len(l)):]
		}
		holds(t, l, f, anyNumber(r, instants, noInstants), anyGuard(r), anyNumber(r, words, noWords), r.Intn(2) == 0)
	}
}

// P15.4: who goes on and on, answered by chance and woken by guards that it waits for, or by any, comes to no place to which its program does not go on.
func TestOn(t *testing.T) {
	r := rand.New(rand.NewSource(9))
	did := map[bool]int{}
	for range 3000 {
		l := program(r)
		f := frameOf(r, len(l))
		for range 40 {
			next, what, _, _ := interp.Run(l, f, 30)
			if f = next; what != interp.Asks {
				break
			}
			g, x := anyGuard(r), byChance(r, words)
			a, e := Of(l, f, 70)
			if e != api.OK {
				t.Fatalf("%s at %v: %d", shown(l), f, e)
			}
			if len(a.Guards) > 0 {
				g = byChance(r, a.Guards)
			}
			waits := slices.Contains(waiting, l[f.PC].Op)
			if waits {
				next, _ = Wake(l, f, g, x, r.Intn(2) == 0)
			} else {
				next, _ = Answer(l, f, x)
			}
			holds(t, l, f, 70, g, x, r.Intn(2) == 0)
			if next == f { // a guard by chance may be none
				break
			}
			follows(t, l, f, next)
			f = next
			did[waits]++
		}
	}
	if did[false] < 1000 || did[true] < 1000 {
		t.Errorf("%v", did)
	}
}

// R3: nothing is kept from call to call: what was answered once is answered again, whatever was asked in between.
func TestAgain(t *testing.T) {
	r := rand.New(rand.NewSource(5))
	for range 2000 {
		l, other := program(r), program(r)
		f, g := frameOf(r, len(l)), frameOf(r, len(other))
		a, e := Of(l, f, 30)
		next, err := Answer(l, f, 4)
		one, x := anyGuard(r), byChance(r, words)
		behind, fault := Wake(l, f, one, x, true)
		Of(other, g, 31)
		Answer(other, g, 5)
		Wake(other, g, anyGuard(r), 6, false)
		asks(t, l, f, 30, a, e)
		answers(t, l, f, 4, next, err)
		wakes(t, l, f, one, x, true, behind, fault)
	}
}
