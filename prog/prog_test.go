package prog

import (
	"fmt"
	"math"
	"math/rand"
	"slices"
	"strings"
	"testing"

	"becket/api"
	"becket/instr"
	"becket/opcode"
)

// The plainest instructions, and such as may not be, by the error of layer 10.
var (
	nop    = of(opcode.Nop, 0, 0, 0)
	halt   = of(opcode.Halt, 0, 0, 0)
	ret    = of(opcode.Ret, 0, 0, 0)
	fail   = of(opcode.Fail, 9, 0, 0)
	skip   = of(opcode.Gskip, 0, 0, 8)
	noCode = of(48, 0, 0, 0)
	noForm = of(opcode.Nop, 0, 1, 0)
	noReg  = of(opcode.Emit, 8, 0, 0)
)

// jumps are the opcodes whose instructions have a place.
var jumps = []uint8{opcode.Jmp, opcode.Jz, opcode.Jnz, opcode.Jbad, opcode.Call}

// parting are those of them that go on behind them, too.
var parting = []uint8{opcode.Jz, opcode.Jnz, opcode.Jbad, opcode.Call}

// nowhere are the instructions that go on nowhere.
var nowhere = []api.Instr{halt, ret, fail}

// guards are guards of each kind, with and without a register.
var guards = []api.Instr{
	of(opcode.Gin, 0, 1, 8), of(opcode.Gbar, 7, 0, 8), of(opcode.Gtime, 3, 0, 8), skip,
	of(opcode.Gin, 7, 7, 0), of(opcode.Gbar, 0, 0, 7), of(opcode.Gtime, 0, 0, 3), of(opcode.Gskip, 0, 0, 1),
}

// far are places that no list and no text has: below 0, and such as come into one, when something is added to them, or when they are cut to fewer bits.
var far = []int{math.MinInt, math.MinInt + 1, math.MinInt + 5, -1 << 62, -1<<32 - 1, -1 << 32, -1<<32 + 1, -65536, -256, -64, -5, -4, -2, -1}

// behind are places that lie far behind any list and any text of the tests.
var behind = []int{1 << 16, 1<<16 + 1, 1<<31 - 1, 1 << 31, 1 << 32, 1<<32 + 1, 1 << 62, math.MaxInt - 256, math.MaxInt - 4, math.MaxInt - 1, math.MaxInt}

// of is an instruction by its bytes.
func of(op, a, b, c uint8) api.Instr { return api.Instr{Op: op, A: a, B: b, C: c} }

// alt is an alt with so many guards.
func alt(many uint8) api.Instr { return of(opcode.Alt, 1, 2, many) }

// to is an instruction of one of the jumps' opcodes that leads to a place.
func to(op uint8, place int) api.Instr {
	if op == opcode.Jz || op == opcode.Jnz {
		return of(op, 3, uint8(place), 0)
	}
	return of(op, uint8(place), 0, 0)
}

// list is a list of instructions.
func list(l ...api.Instr) []api.Instr { return l }

// times is an instruction so many times.
func times(many int, x api.Instr) []api.Instr { return slices.Repeat(list(x), many) }

// plain is an instruction of each opcode that is no guard, no alt and no jump, and may be.
func plain() []api.Instr {
	var l []api.Instr
	for op := range uint8(48) {
		switch {
		case slices.Contains(jumps, op), op >= opcode.Alt && op <= opcode.Gskip:
		case op == opcode.Fail:
			l = append(l, fail)
		default:
			l = append(l, of(op, 0, 0, 0))
		}
	}
	return l
}

// isJump is what the chapters tell of an opcode's form: whether it has a place, and where the instruction's is.
func isJump(x api.Instr) (int, bool) {
	switch x.Op {
	case 18, 21, 22:
		return int(x.A), true
	case 19, 20:
		return int(x.B), true
	}
	return 0, false
}

// guardAt tells whether an instruction is of the class of guards.
func guardAt(l []api.Instr, at int) bool { return l[at].Op >= 42 && l[at].Op <= 45 }

// checked is what the chapter asks of Check.
func checked(l []api.Instr) (int, api.Errno) {
	if len(l) == 0 {
		return 0, api.ErrEmpty
	}
	if len(l) > 64 {
		return 64, api.ErrMany
	}
	for at, x := range l {
		if e := instr.Check(x); e != api.OK {
			return at, e
		}
		if guardAt(l, at) && !slices.ContainsFunc(alting(l[:at]), func(a Alt) bool { return at <= a.At+a.Many }) {
			return at, api.ErrForm
		}
		if x.Op == 41 {
			for g := at + 1; g <= at+int(x.C); g++ {
				if g == len(l) || !guardAt(l, g) {
					return at, api.ErrForm
				}
			}
		}
		place, leads := isJump(x)
		if leads && place > len(l) {
			return at, api.ErrRange
		}
		if leads && place != len(l) && guardAt(l, place) {
			return at, api.ErrForm
		}
	}
	return 0, api.OK
}

// alting are the alts of instructions, be they a program or not.
func alting(l []api.Instr) []Alt {
	var out []Alt
	for at, x := range l {
		if x.Op == 41 {
			out = append(out, Alt{at, int(x.C)})
		}
	}
	return out
}

// onwards is what the chapter asks of Next, of a place of a program that may be.
func onwards(l []api.Instr, at int) []int {
	x := l[at]
	place, leads := isJump(x)
	next := map[int]bool{at + 1: x.Op != 1 && x.Op != 18 && x.Op != 23 && x.Op != 26 && x.Op != 41}
	if leads {
		next[place] = true
	}
	if x.Op == 41 {
		next[at+1+int(x.C)] = true
	}
	var out []int
	for n := range 80 {
		if next[n] {
			out = append(out, n)
		}
	}
	return out
}

// reached is what the chapter asks of Reach, of a program that may be: round by round, till nothing is new.
func reached(l []api.Instr) []bool {
	is := make([]bool, len(l))
	is[0] = true
	for more := true; more; {
		more = false
		for at := range l {
			if !is[at] {
				continue
			}
			for _, n := range onwards(l, at) {
				if n < len(l) && !is[n] {
					is[n], more = true, true
				}
			}
		}
	}
	return is
}

// written is what the chapter asks of Bytes, of a list that is a program or none: the number is cut to a byte.
func written(l []api.Instr) string {
	out := []byte{byte(len(l))}
	for _, x := range l {
		out = append(out, x.Op, x.A, x.B, x.C)
	}
	return string(out)
}

// read is what the chapter asks of Read.
func read(s string, at int) ([]api.Instr, int, api.Errno) {
	if at < 0 || at > len(s) {
		return nil, 0, api.ErrRange
	}
	rest := s[at:]
	if rest == "" {
		return nil, 0, api.ErrEnd
	}
	many := int(rest[0])
	if many == 0 {
		return nil, 0, api.ErrEmpty
	}
	if many > 64 {
		return nil, 0, api.ErrMany
	}
	var l []api.Instr
	for i := range many {
		b := rest[min(len(rest), 1+4*i):]
		if len(b) < 4 {
			return nil, 0, api.ErrEnd
		}
		x := of(b[0], b[1], b[2], b[3])
		if e := instr.Check(x); e != api.OK {
			return nil, 0, e
		}
		l = append(l, x)
	}
	if _, e := checked(l); e != api.OK {
		return nil, 0, e
	}
	return l, at + 1 + 4*many, api.OK
}

// shown is the beginning of a list's text.
func shown(l []api.Instr) string { return fmt.Sprintf("%.200s", fmt.Sprint(l)) }

// checks fails, unless Check answers so.
func checks(t *testing.T, l []api.Instr, at int, err api.Errno) {
	t.Helper()
	if got, e := Check(l); got != at || e != err {
		t.Errorf("Check of %d, %s: %d, %d; want %d, %d", len(l), shown(l), got, e, at, err)
	}
}

// fine fails, unless Check takes a list.
func fine(t *testing.T, l []api.Instr) {
	t.Helper()
	checks(t, l, 0, api.OK)
}

// lists fails, unless Alts answers so.
func lists(t *testing.T, l []api.Instr, want ...Alt) {
	t.Helper()
	if got := Alts(l); !slices.Equal(got, want) {
		t.Errorf("Alts of %d, %s: %v; want %v", len(l), shown(l), got, want)
	}
}

// goes fails, unless Next answers so.
func goes(t *testing.T, l []api.Instr, at int, want ...int) {
	t.Helper()
	if got := Next(l, at); !slices.Equal(got, want) {
		t.Errorf("Next of %d, %s, %d: %v; want %v", len(l), shown(l), at, got, want)
	}
}

// comes fails, unless Reach tells of a list's places so: by a 1 of each that is reached, by a 0 of others.
func comes(t *testing.T, l []api.Instr, want string) {
	t.Helper()
	got := ""
	for _, is := range Reach(l) {
		got += map[bool]string{true: "1", false: "0"}[is]
	}
	if got != want {
		t.Errorf("Reach of %d, %s: %s; want %s", len(l), shown(l), got, want)
	}
}

// writes fails, unless Bytes answers so.
func writes(t *testing.T, l []api.Instr, want string) {
	t.Helper()
	if got := Bytes(l); got != want {
		t.Errorf("Bytes of %d, %s: %q; want %q", len(l), shown(l), got, want)
	}
}

// reads fails, unless Read answers so.
func reads(t *testing.T, s string, at int, want []api.Instr, end int, err api.Errno) {
	t.Helper()
	if got, n, e := Read(s, at); !slices.Equal(got, want) || n != end || e != err {
		t.Errorf("Read(%.80q of %d, %d): %s, %d, %d; want %s, %d, %d", s, len(s), at, shown(got), n, e, shown(want), end, err)
	}
}

// refuses fails, unless Read answers this error, and nothing else.
func refuses(t *testing.T, s string, at int, err api.Errno) {
	t.Helper()
	reads(t, s, at, nil, 0, err)
}

// readsAnew fails, unless Read answers what the chapter asks for.
func readsAnew(t *testing.T, s string, at int) {
	t.Helper()
	want, end, err := read(s, at)
	reads(t, s, at, want, end, err)
}

// holds fails, unless all that is told of a list is what the chapter asks for.
func holds(t *testing.T, l []api.Instr) {
	t.Helper()
	at, err := checked(l)
	checks(t, l, at, err)
	if err != api.OK {
		lists(t, l)
		for at := range len(l) + 2 {
			goes(t, l, at-1)
		}
		comes(t, l, "")
		writes(t, l, "")
		return
	}
	lists(t, l, alting(l)...)
	for at := range l {
		goes(t, l, at, onwards(l, at)...)
	}
	goes(t, l, -1)
	goes(t, l, len(l))
	if got, want := Reach(l), reached(l); !slices.Equal(got, want) {
		t.Errorf("Reach of %d, %s: %v; want %v", len(l), shown(l), got, want)
	}
	writes(t, l, written(l))
	reads(t, written(l), 0, l, 1+4*len(l), api.OK)
}

// small calls a function with each list of so many instructions at most, all of them picked ones; the list is the function's only while it runs.
func small(most int, picked []api.Instr, f func(l []api.Instr)) {
	var grow func(l []api.Instr)
	grow = func(l []api.Instr) {
		f(l)
		if len(l) == most {
			return
		}
		for _, x := range picked {
			grow(append(l, x))
		}
	}
	grow(make([]api.Instr, 0, most))
}

// byChance is a program by chance, of 64 instructions at most.
func byChance(r *rand.Rand) []api.Instr {
	quiet := plain()
	var l []api.Instr
	for many := 1 + r.Intn(64); len(l) < many; {
		switch n := r.Intn(10); {
		case n < 2 && len(l) < many-1:
			n := 1 + r.Intn(min(6, many-1-len(l)))
			l = append(l, alt(uint8(n)))
			for range n {
				l = append(l, guards[r.Intn(len(guards))])
			}
		case n < 6:
			l = append(l, to(jumps[r.Intn(len(jumps))], 0))
		default:
			l = append(l, quiet[r.Intn(len(quiet))])
		}
	}
	for at, x := range l {
		if _, leads := isJump(x); leads {
			place := r.Intn(len(l) + 1)
			for place < len(l) && guardAt(l, place) {
				place--
			}
			l[at] = to(x.Op, place)
		}
	}
	return l
}

// The chapter's example.
func TestExamples(t *testing.T) {
	l := list(of(opcode.Alt, 0, 0, 1), skip, halt)
	fine(t, l)
	goes(t, l, 0, 2)
}

// What these tests tell of the opcodes is what layers 9 and 10 tell of them.
func TestTable(t *testing.T) {
	for op := range 256 {
		x := of(uint8(op), 5, 6, 0)
		place, leads := instr.Place(x)
		if at, is := isJump(x); at != place || is != leads {
			t.Errorf("%d: place %d, %v; want %d, %v", op, at, is, place, leads)
		}
		if is := guardAt(list(x), 0); is != (opcode.Class(op) == 3) {
			t.Errorf("%d: a guard: %v", op, is)
		}
	}
	for _, x := range slices.Concat(plain(), guards, nowhere, list(nop, alt(1), alt(6))) {
		if e := instr.Check(x); e != api.OK {
			t.Errorf("%v: %d", x, e)
		}
	}
	for _, op := range jumps {
		for place := range 65 {
			if e := instr.Check(to(op, place)); e != api.OK {
				t.Errorf("%d to %d: %d", op, place, e)
			}
		}
	}
	if n := len(plain()); n != 38 {
		t.Errorf("%d plain ones", n)
	}
}

// P12.1: no instructions are no program, be the list nil or empty.
func TestCheckEmpty(t *testing.T) {
	checks(t, nil, 0, api.ErrEmpty)
	checks(t, []api.Instr{}, 0, api.ErrEmpty)
	checks(t, list(nop, nop)[1:1], 0, api.ErrEmpty)
}

// P12.1: 64 instructions may be, more may not; then nothing else is told, whatever is wrong beside.
func TestCheckMany(t *testing.T) {
	for many := 1; many <= 64; many++ {
		fine(t, times(many, nop))
	}
	for _, many := range []int{65, 66, 127, 128, 129, 255, 256, 257, 300, 320, 512, 1000, 65536, 65537, 65600, 1 << 20} {
		checks(t, times(many, nop), 64, api.ErrMany)
		for _, x := range list(noCode, noForm, noReg, skip, alt(1), to(opcode.Jmp, 64)) {
			checks(t, times(many, x), 64, api.ErrMany)
			checks(t, append(list(x), times(many-1, nop)...), 64, api.ErrMany)
			checks(t, append(times(many-1, nop), x), 64, api.ErrMany)
		}
	}
}

// P12.1: each instruction alone: what waits, reckons or leads on is a program, a guard is none.
func TestCheckOne(t *testing.T) {
	for _, x := range plain() {
		fine(t, list(x))
	}
	for _, x := range guards {
		checks(t, list(x), 0, api.ErrForm)
	}
	for _, op := range jumps {
		fine(t, list(to(op, 0)))
		fine(t, list(to(op, 1)))
		checks(t, list(to(op, 2)), 0, api.ErrRange)
	}
	for many := uint8(1); many <= 6; many++ {
		checks(t, list(alt(many)), 0, api.ErrForm)
	}
}

// P12.1: an instruction that layer 10 does not take, at each place, by its error.
func TestCheckInstr(t *testing.T) {
	for _, c := range []struct {
		x    api.Instr
		want api.Errno
	}{
		{noCode, api.ErrCode}, {of(255, 255, 255, 255), api.ErrCode}, {of(49, 0, 0, 0), api.ErrCode}, {of(169, 0, 0, 1), api.ErrCode},
		{noForm, api.ErrForm}, {of(opcode.Halt, 0, 0, 1), api.ErrForm}, {of(opcode.Jmp, 0, 1, 0), api.ErrForm}, {of(opcode.Jz, 0, 0, 1), api.ErrForm},
		{noReg, api.ErrRange}, {of(opcode.Fail, 0, 0, 0), api.ErrRange}, {of(opcode.Set, 8, 1, 1), api.ErrRange}, {of(opcode.Jmp, 65, 0, 0), api.ErrRange}, {of(opcode.Call, 255, 0, 0), api.ErrRange}, {of(opcode.Jz, 8, 0, 0), api.ErrRange},
	} {
		for _, many := range []int{1, 2, 3, 40, 64} {
			for at := range many {
				l := times(many, nop)
				l[at] = c.x
				checks(t, l, at, c.want)
			}
		}
	}
}

// P12.1: a guard at place 0, behind each instruction that is no alt, and behind an alt's guards.
func TestCheckGuard(t *testing.T) {
	for _, g := range guards {
		checks(t, list(g, halt), 0, api.ErrForm)
		checks(t, list(g, alt(1), g, halt), 0, api.ErrForm)
		for _, x := range plain() {
			checks(t, list(x, g), 1, api.ErrForm)
			checks(t, list(nop, x, g, x), 2, api.ErrForm)
		}
		for _, op := range jumps {
			checks(t, list(to(op, 0), g), 1, api.ErrForm)
		}
		for many := 1; many <= 6; many++ {
			l := append(list(alt(uint8(many))), times(many, g)...)
			fine(t, l)
			checks(t, append(slices.Clone(l), g), many+1, api.ErrForm)
			checks(t, append(slices.Clone(l), g, halt), many+1, api.ErrForm)
			checks(t, append(slices.Clone(l), halt, g), many+2, api.ErrForm)
			checks(t, slices.Concat(l, l, list(g, halt)), 2*many+2, api.ErrForm)
		}
	}
}

// P12.1: alts with all their guards, of all kinds, at the head, in the middle, at the end, and one behind the other's guards.
func TestCheckAlt(t *testing.T) {
	for many := 1; many <= 6; many++ {
		for i := range guards {
			l := list(alt(uint8(many)))
			for k := range many {
				l = append(l, guards[(i+k)%len(guards)])
			}
			fine(t, l)
			fine(t, append(slices.Clone(l), halt))
			fine(t, append(list(nop), l...))
			fine(t, slices.Concat(l, l))
			fine(t, slices.Concat(l, list(alt(1), skip), l, list(halt)))
			fine(t, append(times(63-many, nop), l...))
			checks(t, append(times(64-many, nop), l...), 64, api.ErrMany)
		}
	}
}

// P12.1: an alt one of whose guards is missing at the end, by one and by more.
func TestCheckAltMissing(t *testing.T) {
	for many := 1; many <= 6; many++ {
		for there := range many {
			l := append(list(alt(uint8(many))), times(there, skip)...)
			checks(t, l, 0, api.ErrForm)
			checks(t, append(list(nop, halt), l...), 2, api.ErrForm)
			checks(t, append(list(alt(2), skip, skip), l...), 3, api.ErrForm)
			checks(t, append(times(63-there, nop), l...), 63-there, api.ErrForm)
		}
	}
}

// P12.1: an alt with another instruction, or with one that is none, in place of one of its guards: the alt is told, not what stands there.
func TestCheckAltOther(t *testing.T) {
	others := slices.Concat(plain(), list(noCode, of(255, 8, 8, 8), of(46, 9, 9, 9), noForm, noReg, alt(1), alt(6), of(opcode.Alt, 9, 9, 9), of(opcode.Alt, 0, 0, 0)))
	for _, op := range jumps {
		others = append(others, to(op, 0), to(op, 64))
	}
	for many := 1; many <= 6; many++ {
		for at := range many {
			for _, x := range others {
				l := append(list(alt(uint8(many))), times(many, skip)...)
				l[at+1] = x
				checks(t, l, 0, api.ErrForm)
				checks(t, slices.Concat(list(nop), l, times(6, skip), list(halt)), 1, api.ErrForm)
			}
		}
	}
	checks(t, list(alt(3), skip, alt(1), skip, halt), 0, api.ErrForm)
	checks(t, list(alt(2), alt(1), skip, skip, halt), 0, api.ErrForm)
	checks(t, list(alt(1), alt(1), skip, halt), 0, api.ErrForm)
}

// P12.1: a guard that is wrong in itself is one all the same: it is told at its own place, and so is what is wrong ahead of it.
func TestCheckAltWrongGuard(t *testing.T) {
	for _, c := range []struct {
		g    api.Instr
		want api.Errno
	}{
		{of(opcode.Gskip, 1, 0, 8), api.ErrForm}, {of(opcode.Gskip, 0, 0, 9), api.ErrRange}, {of(opcode.Gin, 8, 0, 8), api.ErrRange}, {of(opcode.Gin, 0, 8, 8), api.ErrRange}, {of(opcode.Gbar, 0, 1, 8), api.ErrForm}, {of(opcode.Gbar, 8, 1, 8), api.ErrRange}, {of(opcode.Gtime, 8, 0, 0), api.ErrRange}, {of(opcode.Gtime, 0, 0, 255), api.ErrRange},
	} {
		checks(t, list(alt(1), c.g), 1, c.want)
		checks(t, list(alt(3), skip, c.g, skip, halt), 2, c.want)
		checks(t, list(alt(3), skip, c.g, nop), 0, api.ErrForm)
		checks(t, list(to(opcode.Jmp, 2), alt(1), c.g, halt), 0, api.ErrForm)
		checks(t, list(c.g, halt), 0, c.want)
		checks(t, list(nop, c.g), 1, c.want)
	}
}

// P12.1: of each length and each instruction that has a place, all places: up to the length itself they may be.
func TestCheckPlace(t *testing.T) {
	for _, op := range jumps {
		for many := 1; many <= 64; many++ {
			for _, at := range []int{0, many / 2, many - 1} {
				for place := range 65 {
					l := times(many, nop)
					l[at] = to(op, place)
					if place <= many {
						fine(t, l)
					} else {
						checks(t, l, at, api.ErrRange)
					}
				}
				l := times(many, nop)
				l[at] = to(op, 65)
				checks(t, l, at, api.ErrRange)
			}
		}
	}
}

// P12.1: a place at which a guard is, ahead of the instruction and behind it; the alt itself, and what is behind its guards, may be gone to.
func TestCheckPlaceGuard(t *testing.T) {
	for _, op := range jumps {
		for many := 1; many <= 6; many++ {
			for _, g := range guards {
				block := append(list(alt(uint8(many))), times(many, g)...)
				for place := range many + 4 {
					after := slices.Concat(list(nop), block, list(to(op, place)))
					ahead := slices.Concat(list(to(op, place)), block, list(nop))
					switch {
					case place >= 2 && place <= many+1:
						checks(t, after, many+2, api.ErrForm)
						checks(t, ahead, 0, api.ErrForm)
					default:
						fine(t, after)
						fine(t, ahead)
					}
				}
			}
		}
		checks(t, list(to(op, 1), skip), 0, api.ErrForm)
		checks(t, list(to(op, 2), nop, skip), 0, api.ErrForm)
		fine(t, list(alt(1), skip, to(op, 3)))
		checks(t, list(alt(1), skip, to(op, 4)), 2, api.ErrRange)
		fine(t, slices.Concat(list(to(op, 60)), times(59, nop), list(alt(3), skip, skip, skip)))
		for place := 61; place < 64; place++ {
			checks(t, slices.Concat(list(to(op, place)), times(59, nop), list(alt(3), skip, skip, skip)), 0, api.ErrForm)
		}
		fine(t, slices.Concat(list(to(op, 64)), times(59, nop), list(alt(3), skip, skip, skip)))
	}
}

// P12.1: bytes that are no place may be as great as they like, and what a guard's number would be.
func TestCheckNoPlace(t *testing.T) {
	for _, x := range list(of(opcode.Fail, 255, 0, 0), of(opcode.Set, 1, 2, 3), of(opcode.Set, 2, 255, 255), of(opcode.Mov, 1, 1, 0), of(opcode.Emit, 1, 0, 0), of(opcode.Sync, 1, 0, 0), of(opcode.Add, 7, 7, 7), of(opcode.Send, 7, 7, 0)) {
		fine(t, list(alt(1), skip, x))
		fine(t, list(x))
	}
}

// P12.1: what is first of one instruction, where more than one thing is wrong with it.
func TestCheckOrder(t *testing.T) {
	for _, c := range []struct {
		l    []api.Instr
		at   int
		want api.Errno
	}{
		{list(of(opcode.Gskip, 0, 0, 9), halt), 0, api.ErrRange},
		{list(of(opcode.Gskip, 0, 1, 9), halt), 0, api.ErrForm},
		{list(of(opcode.Alt, 8, 0, 1)), 0, api.ErrRange},
		{list(of(opcode.Alt, 0, 3, 1)), 0, api.ErrRange},
		{list(of(opcode.Alt, 0, 0, 0)), 0, api.ErrRange},
		{list(of(opcode.Alt, 0, 0, 7), skip, skip, skip, skip, skip, skip, skip), 0, api.ErrRange},
		{list(of(opcode.Alt, 0, 0, 255), nop), 0, api.ErrRange},
		{list(of(opcode.Alt, 0, 0, 0), skip), 0, api.ErrRange},
		{list(of(opcode.Jmp, 64, 1, 0)), 0, api.ErrForm},
		{list(of(opcode.Jmp, 65, 1, 0)), 0, api.ErrRange},
		{list(of(opcode.Jz, 8, 64, 0)), 0, api.ErrRange},
		{list(of(opcode.Jz, 1, 64, 1)), 0, api.ErrForm},
		{list(of(opcode.Jz, 8, 2, 0), alt(1), skip), 0, api.ErrRange},
		{list(of(opcode.Call, 2, 0, 1), alt(1), skip), 0, api.ErrForm},
		{list(of(opcode.Jnz, 1, 65, 0), nop), 0, api.ErrRange},
		{list(of(opcode.Jnz, 9, 65, 9), nop), 0, api.ErrRange},
	} {
		checks(t, c.l, c.at, c.want)
	}
}

// P12.1: of several instructions with which something is wrong the first one is told.
func TestCheckFirst(t *testing.T) {
	wrong := []struct {
		x    api.Instr
		want api.Errno
	}{
		{noCode, api.ErrCode}, {noForm, api.ErrForm}, {noReg, api.ErrRange}, {skip, api.ErrForm}, {alt(1), api.ErrForm}, {to(opcode.Jmp, 64), api.ErrRange}, {to(opcode.Jz, 30), api.ErrForm},
	}
	for _, a := range wrong {
		for _, b := range wrong {
			for first := range 9 {
				for second := first + 2; second < 12; second++ {
					l := slices.Concat(times(29, nop), list(alt(1), skip, halt))
					l[first], l[second] = a.x, b.x
					checks(t, l, first, a.want)
				}
			}
		}
	}
	for at := range 60 {
		l := times(64, noCode)
		copy(l, times(at, nop))
		checks(t, l, at, api.ErrCode)
	}
	checks(t, list(to(opcode.Jmp, 9), skip, noCode), 0, api.ErrRange)
	checks(t, list(nop, to(opcode.Jmp, 2), skip, noCode), 1, api.ErrForm)
	checks(t, list(nop, alt(2), skip, noCode), 1, api.ErrForm)
	checks(t, list(alt(2), skip, skip, skip, noCode), 3, api.ErrForm)
}

// P12.1 to P12.4: no call writes into the list that it was handed, nor behind its end.
func TestKeeps(t *testing.T) {
	l := list(alt(2), skip, skip, to(opcode.Jz, 0), ret, to(opcode.Call, 3), noCode, halt)
	was := slices.Clone(l)
	for many := range len(l) + 1 {
		Check(l[:many])
		Alts(l[:many])
		for at := range many + 1 {
			Next(l[:many], at)
		}
		Reach(l[:many])
		Bytes(l[:many])
	}
	if !slices.Equal(l, was) {
		t.Errorf("%v; was %v", l, was)
	}
}

// P12.2: no alts, one, several, one behind the other's guards; with each number of guards.
func TestAlts(t *testing.T) {
	lists(t, list(nop))
	lists(t, times(64, nop))
	lists(t, list(to(opcode.Jmp, 0), of(opcode.Set, 1, 41, 41), of(opcode.Fail, 41, 0, 0)))
	lists(t, list(alt(1), skip), Alt{0, 1})
	lists(t, list(alt(1), skip, halt), Alt{0, 1})
	lists(t, list(nop, nop, alt(3), skip, skip, skip, halt), Alt{2, 3})
	lists(t, list(alt(1), skip, alt(2), skip, skip, alt(1), skip), Alt{0, 1}, Alt{2, 2}, Alt{5, 1})
	lists(t, list(halt, alt(2), skip, skip, nop, nop, alt(6), skip, skip, skip, skip, skip, skip, halt, alt(1), skip), Alt{1, 2}, Alt{6, 6}, Alt{14, 1})
	for many := 1; many <= 6; many++ {
		for i, g := range guards {
			l := append(list(of(opcode.Alt, uint8(i), uint8(i%3), uint8(many))), times(many, g)...)
			lists(t, l, Alt{0, many})
			lists(t, append(times(63-many, nop), l...), Alt{63 - many, many})
		}
	}
	var want []Alt
	for i := range 32 {
		want = append(want, Alt{2 * i, 1})
	}
	lists(t, slices.Repeat(list(alt(1), skip), 32), want...)
}

// unfit are lists that Check does not take.
func unfit() [][]api.Instr {
	l := [][]api.Instr{nil, {}, times(65, nop), times(256, nop), times(65537, nop), append(list(alt(1), skip), times(63, nop)...)}
	for _, x := range slices.Concat(list(noCode, noForm, noReg, alt(1), alt(6), to(opcode.Jmp, 5), to(opcode.Jz, 63), to(opcode.Call, 64)), guards) {
		l = append(l, list(x, alt(1), skip), list(alt(1), skip, x, alt(1)), list(alt(1), skip, nop, x))
	}
	return l
}

// P12.2 to P12.4: nothing is told of a list that Check does not take, wherever in it something is wrong.
func TestUnfit(t *testing.T) {
	for _, l := range unfit() {
		if _, e := Check(l); e == api.OK {
			t.Errorf("Check takes %v", l)
		}
		lists(t, l)
		for at := -1; at <= min(len(l), 70); at++ {
			goes(t, l, at)
		}
		comes(t, l, "")
		writes(t, l, "")
	}
}

// P12.3: each opcode that just goes on goes on behind itself, wherever it stands, and the last one behind the program.
func TestNextPlain(t *testing.T) {
	for _, x := range plain() {
		if slices.Contains(nowhere, x) || x.Op == opcode.Fail {
			continue
		}
		for _, many := range []int{1, 2, 5, 64} {
			for at := range many {
				goes(t, times(many, x), at, at+1)
			}
		}
	}
}

// P12.3: from halt, fail and ret it goes on nowhere.
func TestNextNowhere(t *testing.T) {
	for _, x := range append(nowhere, of(opcode.Fail, 1, 0, 0), of(opcode.Fail, 255, 0, 0)) {
		for _, many := range []int{1, 2, 5, 64} {
			for at := range many {
				goes(t, times(many, x), at)
			}
		}
	}
}

// P12.3: from jmp it goes on at its place, from the others that have one behind them, too; the lesser one first, and once, if both are the same.
func TestNextJumps(t *testing.T) {
	for _, many := range []int{1, 2, 7, 63, 64} {
		for at := range many {
			for place := range many + 1 {
				l := times(many, nop)
				l[at] = to(opcode.Jmp, place)
				goes(t, l, at, place)
				for _, op := range parting {
					l[at] = to(op, place)
					switch {
					case place < at+1:
						goes(t, l, at, place, at+1)
					case place > at+1:
						goes(t, l, at, at+1, place)
					default:
						goes(t, l, at, place)
					}
				}
			}
		}
	}
	goes(t, list(to(opcode.Jz, 1)), 0, 1)
	goes(t, list(to(opcode.Jz, 0)), 0, 0, 1)
	goes(t, list(nop, to(opcode.Call, 2)), 1, 2)
	goes(t, list(nop, to(opcode.Call, 0)), 1, 0, 2)
}

// P12.3: from an alt it goes on behind its guards; from a guard just behind itself, be that a guard or not.
func TestNextAlt(t *testing.T) {
	for many := 1; many <= 6; many++ {
		for ahead := range 64 - many {
			l := slices.Concat(times(ahead, nop), list(alt(uint8(many))), times(many, skip))
			for len(l) < 64 && len(l) < ahead+many+3 {
				goes(t, l, ahead, ahead+1+many)
				for g := ahead + 1; g <= ahead+many; g++ {
					goes(t, l, g, g+1)
				}
				l = append(l, halt)
			}
		}
	}
	for _, g := range guards {
		goes(t, list(alt(2), g, g, halt), 0, 3)
		goes(t, list(alt(2), g, g, halt), 1, 2)
		goes(t, list(alt(2), g, g, halt), 2, 3)
		goes(t, list(alt(2), g, g), 0, 3)
	}
	l := list(alt(1), skip, alt(6), skip, skip, skip, skip, skip, skip, alt(1), skip)
	goes(t, l, 0, 2)
	goes(t, l, 2, 9)
	goes(t, l, 9, 11)
}

// P12.3: from places at which no instruction is it goes on nowhere.
func TestNextOutside(t *testing.T) {
	for _, l := range [][]api.Instr{list(nop), list(to(opcode.Jz, 0), halt), list(alt(1), skip), times(64, nop)} {
		for _, at := range slices.Concat(far, behind, []int{len(l), len(l) + 1, len(l) + 4, 64, 65, 255, 256}) {
			goes(t, l, at)
		}
	}
}

// P12.3: one behind the other, from 0 on, up to what goes on nowhere.
func TestReachLine(t *testing.T) {
	for many := 1; many <= 64; many++ {
		comes(t, times(many, nop), strings.Repeat("1", many))
		for _, x := range nowhere {
			for at := range many {
				l := times(many, nop)
				l[at] = x
				comes(t, l, strings.Repeat("1", at+1)+strings.Repeat("0", many-at-1))
			}
		}
	}
}

// P12.3: places that only a loop comes to, that nothing comes to, behind a jump, of an alt's guards, and ways that lead behind the program.
func TestReach(t *testing.T) {
	jmp, jz, call := uint8(opcode.Jmp), uint8(opcode.Jz), uint8(opcode.Call)
	for _, c := range []struct {
		l    []api.Instr
		want string
	}{
		{list(to(jmp, 0)), "1"}, {list(to(jmp, 1)), "1"}, {list(to(jz, 1)), "1"}, {list(to(jz, 0)), "1"},
		{list(to(jmp, 0), nop), "10"}, {list(to(jmp, 2), nop), "10"}, {list(to(jmp, 2), nop, nop), "101"}, {list(to(jmp, 1), nop, nop), "111"},
		{list(to(jmp, 3), nop, halt, to(jmp, 1)), "1111"},
		{list(to(jmp, 3), nop, halt, to(jmp, 2)), "1011"},
		{list(to(jmp, 4), to(jmp, 3), to(jmp, 1), halt, to(jmp, 2)), "11111"},
		{list(to(jmp, 4), to(jmp, 3), to(jmp, 1), halt, to(jmp, 1)), "11011"},
		{list(to(jmp, 2), nop, to(jmp, 2), nop), "1010"},
		{list(to(jmp, 1), to(jmp, 0), nop), "110"},
		{list(to(jz, 3), halt, nop, halt), "1101"},
		{list(to(jz, 3), halt, nop, to(jmp, 2)), "1111"},
		{list(to(jz, 4), halt, nop, nop), "1100"},
		{list(nop, to(jz, 4), to(jmp, 0), nop, to(jz, 0), halt, nop), "1110110"},
		{list(to(call, 3), halt, nop, nop, ret, nop), "110110"},
		{list(to(call, 2), halt, ret), "111"},
		{list(to(call, 2), nop, to(call, 0), halt, nop), "11110"},
		{list(to(call, 1), halt, nop), "110"},
		{list(to(jmp, 2), ret, to(call, 1), halt), "1111"},
		{list(alt(1), skip, halt), "101"}, {list(alt(3), skip, skip, skip), "1000"}, {list(alt(2), skip, skip, halt, nop), "10010"},
		{list(alt(1), skip, alt(1), skip, alt(1), skip), "101010"},
		{list(to(jmp, 3), alt(1), skip, nop), "1001"}, {list(to(jmp, 3), alt(1), skip, to(jmp, 1)), "1101"},
		{list(alt(6), skip, skip, skip, skip, skip, skip, to(jmp, 0), nop), "100000010"},
		{list(halt, nop, to(jmp, 0)), "100"}, {list(ret, to(jmp, 0)), "10"}, {list(fail, fail), "10"},
		{list(to(jmp, 6), nop, halt, nop, halt, to(jz, 1), to(jz, 3), to(jmp, 5)), "11111111"},
	} {
		fine(t, c.l)
		comes(t, c.l, c.want)
	}
	for _, op := range parting {
		comes(t, list(to(op, 3), halt, nop, ret, nop), "11010")
		comes(t, list(nop, to(op, 0), nop), "111")
		comes(t, list(to(op, 4), ret, nop, nop), "1100")
	}
}

// P12.3: long ways: a chain of jumps to and fro, and places that are parted again and again.
func TestReachLong(t *testing.T) {
	l := times(64, nop)
	for i := range 32 {
		l[i], l[63-i] = to(opcode.Jmp, 63-i), to(opcode.Jmp, i+1)
	}
	comes(t, l, strings.Repeat("1", 64))
	l[40] = halt
	comes(t, l, strings.Repeat("1", 24)+strings.Repeat("0", 16)+strings.Repeat("1", 24))
	for _, op := range parting {
		for i := range 64 {
			l[i] = to(op, (i*37+11)%65)
		}
		comes(t, l, strings.Repeat("1", 64))
		for i := range 64 {
			l[i] = to(op, 63-i)
		}
		comes(t, l, strings.Repeat("1", 64))
	}
}

// P12.4: a byte that tells how many, and the bytes of all instructions.
func TestBytes(t *testing.T) {
	for _, c := range []struct {
		l    []api.Instr
		want string
	}{
		{list(nop), "\x01\x00\x00\x00\x00"},
		{list(halt), "\x01\x01\x00\x00\x00"},
		{list(of(opcode.Set, 2, 255, 254), of(opcode.Emit, 2, 0, 0)), "\x02\x03\x02\xff\xfe\x1b\x02\x00\x00"},
		{list(of(opcode.Alt, 0, 0, 1), skip, halt), "\x03\x29\x00\x00\x01\x2d\x00\x00\x08\x01\x00\x00\x00"},
		{list(to(opcode.Jz, 2), to(opcode.Jmp, 0)), "\x02\x13\x03\x02\x00\x12\x00\x00\x00"},
		{times(64, of(opcode.Add, 1, 2, 3)), "\x40" + strings.Repeat("\x04\x01\x02\x03", 64)},
	} {
		writes(t, c.l, c.want)
		reads(t, c.want, 0, c.l, len(c.want), api.OK)
	}
	for many := 1; many <= 64; many++ {
		writes(t, times(many, halt), string([]byte{byte(many)})+strings.Repeat("\x01\x00\x00\x00", many))
	}
}

// P12.4: the numbers ahead: 0 are none, up to 64 may be, above that none, whatever is behind.
func TestReadNumber(t *testing.T) {
	for n := range 256 {
		head := string([]byte{byte(n)})
		for _, rest := range []string{"", "\x00", strings.Repeat("\x00", 3), strings.Repeat("\x00", 4*64), strings.Repeat("\x00", 4*300), strings.Repeat("\xff", 4*300)} {
			switch {
			case n == 0:
				refuses(t, head+rest, 0, api.ErrEmpty)
			case n > 64:
				refuses(t, head+rest, 0, api.ErrMany)
			case len(rest) >= 4*n && rest[0] == 0:
				reads(t, head+rest, 0, times(n, nop), 1+4*n, api.OK)
			case len(rest) < 4:
				refuses(t, head+rest, 0, api.ErrEnd)
			default:
				readsAnew(t, head+rest, 0)
			}
		}
	}
}

// P12.4: places below 0 and behind the end of the text are none; the end itself is one, at which no byte is.
func TestReadOutside(t *testing.T) {
	one := Bytes(list(halt))
	for _, s := range []string{"", "\x00", "\x41", one, one + one, "\xff\xff\xff\xff\xff\xff", Bytes(times(64, nop)), strings.Repeat(one, 51)} {
		for _, at := range slices.Concat(far, behind, []int{len(s) + 1, len(s) + 2, len(s) + 256}) {
			refuses(t, s, at, api.ErrRange)
		}
		refuses(t, s, len(s), api.ErrEnd)
	}
}

// P12.4: texts that end at each of a program's bytes.
func TestReadEnd(t *testing.T) {
	for _, l := range [][]api.Instr{list(nop), list(alt(1), skip, halt), list(to(opcode.Jmp, 2), fail), times(64, halt)} {
		s := Bytes(l)
		for cut := range len(s) {
			refuses(t, s[:cut], 0, api.ErrEnd)
			refuses(t, "\x01\x01\x00\x00\x00"+s[:cut], 5, api.ErrEnd)
		}
		reads(t, s, 0, l, len(s), api.OK)
	}
}

// P12.4: programs in the middle of a text, and bytes behind them, be they what they may.
func TestReadMiddle(t *testing.T) {
	a, b, c := list(halt), list(alt(2), skip, skip, to(opcode.Jmp, 0)), times(64, ret)
	s := Bytes(a) + Bytes(b) + Bytes(c)
	reads(t, s, 0, a, 5, api.OK)
	reads(t, s, 5, b, 22, api.OK)
	reads(t, s, 22, c, 279, api.OK)
	refuses(t, s, 279, api.ErrEnd)
	refuses(t, s, 280, api.ErrRange)
	for _, rest := range []string{"\x00", "\xff", "\x01", "\x01\x00\x00\x00", "\x01\x01\x00\x00\x00", strings.Repeat("\xff", 300)} {
		for _, head := range []string{"", "\x00", "\xff", "\x01\x01", strings.Repeat("\x29", 300)} {
			reads(t, head+Bytes(b)+rest, len(head), b, len(head)+17, api.OK)
		}
	}
	for at := range len(s) + 1 {
		readsAnew(t, s, at)
	}
}

// P12.4: bytes that are no instruction, at each place of a program.
func TestReadInstr(t *testing.T) {
	for _, c := range []struct {
		x    api.Instr
		want api.Errno
	}{
		{noCode, api.ErrCode}, {of(255, 0, 0, 0), api.ErrCode}, {noForm, api.ErrForm}, {of(opcode.Ret, 1, 0, 0), api.ErrForm}, {noReg, api.ErrRange}, {of(opcode.Jmp, 65, 0, 0), api.ErrRange}, {of(opcode.Alt, 0, 0, 7), api.ErrRange},
	} {
		for _, many := range []int{1, 2, 9, 64} {
			for at := range many {
				l := times(many, nop)
				l[at] = c.x
				refuses(t, written(l), 0, c.want)
				refuses(t, "?"+written(l)+"\x00", 1, c.want)
			}
		}
	}
}

// P12.4: bytes whose instructions may be, but are no program.
func TestReadCheck(t *testing.T) {
	for _, c := range []struct {
		l    []api.Instr
		want api.Errno
	}{
		{list(skip), api.ErrForm}, {list(nop, skip), api.ErrForm}, {list(alt(1), skip, skip), api.ErrForm},
		{list(alt(1)), api.ErrForm}, {list(alt(2), skip), api.ErrForm}, {list(alt(1), nop), api.ErrForm}, {list(alt(1), alt(1), skip), api.ErrForm},
		{list(to(opcode.Jmp, 2)), api.ErrRange}, {list(nop, to(opcode.Jz, 64)), api.ErrRange}, {append(times(62, nop), to(opcode.Call, 64)), api.ErrRange},
		{list(to(opcode.Jmp, 2), alt(1), skip), api.ErrForm}, {list(alt(1), skip, to(opcode.Jz, 1)), api.ErrForm},
		{list(to(opcode.Jmp, 9), skip), api.ErrRange}, {list(skip, to(opcode.Jmp, 9)), api.ErrForm},
	} {
		refuses(t, written(c.l), 0, c.want)
		refuses(t, "\x01"+written(c.l)+written(c.l), 1, c.want)
	}
	s := written(list(alt(1))) + instr.Bytes(skip)
	refuses(t, s, 0, api.ErrForm) // the guard is behind the program
}

// P12.4: where more than one thing is wrong: the place, the number, the instructions one behind the other, and how they hang together last.
func TestReadOrder(t *testing.T) {
	for _, c := range []struct {
		s    string
		at   int
		want api.Errno
	}{
		{"", -1, api.ErrRange}, {"", 1, api.ErrRange}, {"", 0, api.ErrEnd}, {"\x00", -1, api.ErrRange}, {"\xff", 2, api.ErrRange}, {"\x00", 1, api.ErrEnd}, {"\xff", 1, api.ErrEnd},
		{"\x00", 0, api.ErrEmpty}, {"\x00\xff\xff\xff\xff", 0, api.ErrEmpty}, {"\x41", 0, api.ErrMany}, {"\xff", 0, api.ErrMany}, {"\x41\xff\xff\xff\xff", 0, api.ErrMany},
		{"\x01\xff\xff\xff", 0, api.ErrEnd}, {"\x01\xff\xff\xff\xff", 0, api.ErrCode}, {"\x02\xff\xff\xff\xff", 0, api.ErrCode}, {"\x40\xff\xff\xff\xff", 0, api.ErrCode},
		{"\x02\x00\x00\x00\x00\xff\xff\xff", 0, api.ErrEnd}, {"\x02\x00\x00\x01\x00\xff\xff\xff", 0, api.ErrForm}, {"\x02\x1b\x08\x00\x00", 0, api.ErrRange},
		{written(list(noForm, noCode)), 0, api.ErrForm}, {written(list(noCode, noForm)), 0, api.ErrCode}, {written(list(noReg, noCode, noForm)), 0, api.ErrRange},
		{written(list(skip, noCode)), 0, api.ErrCode}, {written(list(alt(1), noReg)), 0, api.ErrRange}, {written(list(to(opcode.Jmp, 64), nop, noForm)), 0, api.ErrForm}, {written(list(to(opcode.Jmp, 64), nop, noCode)), 0, api.ErrCode},
		{"\x02" + instr.Bytes(skip), 0, api.ErrEnd}, {"\x03" + instr.Bytes(alt(1)) + instr.Bytes(nop) + "\x00\x00\x00", 0, api.ErrEnd}, {"\x02" + instr.Bytes(to(opcode.Jmp, 64)) + "\x00", 0, api.ErrEnd},
		{written(list(nop, to(opcode.Jmp, 64), skip)), 0, api.ErrRange}, {written(list(nop, skip, to(opcode.Jmp, 64))), 0, api.ErrForm},
	} {
		refuses(t, c.s, c.at, c.want)
	}
}

// P12.4: texts of bytes by chance, from each of their places on.
func TestReadBytes(t *testing.T) {
	r := rand.New(rand.NewSource(124))
	picked := []byte{0, 0, 0, 0, 0, 0, 1, 1, 1, 2, 2, 3, 8, 18, 19, 26, 41, 41, 45, 45, 45, 46, 64, 65, 255}
	taken := 0
	for range 400000 {
		s := make([]byte, r.Intn(30))
		for i := range s {
			s[i] = picked[r.Intn(len(picked))]
		}
		at := r.Intn(len(s)+3) - 1
		if at >= 0 && at < len(s) && r.Intn(2) == 0 {
			s[at] = byte(1 + r.Intn(3))
		}
		if _, _, e := read(string(s), at); e == api.OK {
			taken++
		}
		readsAnew(t, string(s), at)
	}
	if taken < 1000 {
		t.Errorf("just %d programs were taken", taken)
	}
}

// P12.2 to P12.4: what is answered is the caller's own.
func TestOwn(t *testing.T) {
	l := list(alt(2), skip, skip, to(opcode.Jz, 0), to(opcode.Jnz, 6), halt, nop)
	s := Bytes(l)
	for range 2 {
		lists(t, l, Alt{0, 2})
		goes(t, l, 3, 0, 4)
		goes(t, l, 0, 3)
		comes(t, l, "1001111")
		reads(t, s, 0, l, len(s), api.OK)
		clear(Alts(l))
		clear(Next(l, 3))
		clear(Next(l, 0))
		clear(Reach(l))
		got, _, _ := Read(s, 0)
		clear(got)
		_ = append(got[:0], noCode, noForm)
	}
}

// P12.1 to P12.5: each list of five instructions at most, of such as hang together in most ways.
func TestSmall(t *testing.T) {
	small(5, list(nop, halt, skip, alt(1), alt(2), to(opcode.Jmp, 0), to(opcode.Jmp, 3), to(opcode.Jz, 1), to(opcode.Call, 4)), func(l []api.Instr) { holds(t, l) })
}

// P12.1 to P12.5: each list of three, of instructions of all kinds, wrong ones among them.
func TestSmallWrong(t *testing.T) {
	picked := slices.Concat(nowhere, guards[:4], list(nop, noCode, noForm, noReg, of(opcode.Gskip, 0, 0, 9), alt(1), alt(2), alt(3), of(opcode.Alt, 0, 0, 0)))
	for _, op := range jumps {
		for place := range 5 {
			picked = append(picked, to(op, place))
		}
	}
	small(3, picked, func(l []api.Instr) { holds(t, l) })
}

// P12.1 to P12.4: programs by chance, and such with one or two other instructions put in.
func TestChance(t *testing.T) {
	r := rand.New(rand.NewSource(121))
	odd := slices.Concat(guards, list(nop, halt, noCode, noForm, noReg, alt(1), alt(2), alt(6), of(opcode.Alt, 0, 0, 7)))
	for range 3000 {
		l := byChance(r)
		fine(t, l)
		holds(t, l)
		for range 1 + r.Intn(2) {
			x := odd[r.Intn(len(odd))]
			if r.Intn(3) == 0 {
				x = to(jumps[r.Intn(len(jumps))], r.Intn(65))
			}
			l[r.Intn(len(l))] = x
		}
		holds(t, l)
		holds(t, l[:r.Intn(len(l)+1)])
	}
}

// P12.5: a program comes back from its bytes, wherever they stand, and so do its bytes.
func TestBack(t *testing.T) {
	r := rand.New(rand.NewSource(125))
	for range 3000 {
		l := byChance(r)
		s := Bytes(l)
		if len(s) != 1+4*len(l) {
			t.Fatalf("%d bytes of %d instructions", len(s), len(l))
		}
		head, rest := make([]byte, r.Intn(40)), make([]byte, r.Intn(40))
		r.Read(head)
		r.Read(rest)
		text := string(head) + s + string(rest)
		reads(t, text, len(head), l, len(head)+len(s), api.OK)
		got, end, _ := Read(text, len(head))
		writes(t, got, text[len(head):end])
	}
}

// P12.5: programs that stand one behind the other in one text are read one behind the other.
func TestBackAll(t *testing.T) {
	r := rand.New(rand.NewSource(126))
	for range 200 {
		var all strings.Builder
		var programs [][]api.Instr
		for range r.Intn(12) {
			l := byChance(r)
			programs = append(programs, l)
			all.WriteString(Bytes(l))
		}
		s, at := all.String(), 0
		for _, want := range programs {
			got, end, e := Read(s, at)
			if !slices.Equal(got, want) || e != api.OK {
				t.Fatalf("Read at %d: %v, %d; want %v", at, got, e, want)
			}
			at = end
		}
		if at != len(s) {
			t.Errorf("%d of %d bytes were read", at, len(s))
		}
	}
}

// P12.5: no two programs have the same bytes.
func TestBackOne(t *testing.T) {
	seen := map[string]bool{}
	small(4, list(nop, halt, skip, alt(1), alt(2), to(opcode.Jmp, 0), to(opcode.Jz, 1)), func(l []api.Instr) {
		s := Bytes(l)
		if s != "" && seen[s] {
			t.Errorf("%q twice", s)
		}
		seen[s] = true
	})
}

// keepsWithin fails, unless who goes on from a place that is reached comes to one that is, or behind the program, and never to a guard.
func keepsWithin(t *testing.T, l []api.Instr) {
	t.Helper()
	is := Reach(l)
	if len(is) != len(l) || !is[0] {
		t.Fatalf("Reach of %v: %v", l, is)
	}
	for at := range l {
		if !is[at] {
			continue
		}
		if guardAt(l, at) {
			t.Errorf("%v: the guard at %d is reached", l, at)
		}
		for _, n := range Next(l, at) {
			if n < 0 || n > len(l) || n < len(l) && (!is[n] || guardAt(l, n)) {
				t.Errorf("%v: from %d to %d; reached are %v", l, at, n, is)
			}
		}
	}
}

// P12.5: who goes on from a place that is reached stays within the places that are.
func TestWithin(t *testing.T) {
	r := rand.New(rand.NewSource(127))
	for range 5000 {
		keepsWithin(t, byChance(r))
	}
	small(5, list(nop, halt, skip, alt(1), alt(2), to(opcode.Jmp, 0), to(opcode.Jz, 5), to(opcode.Call, 2)), func(l []api.Instr) {
		if _, e := Check(l); e == api.OK {
			keepsWithin(t, l)
		}
	})
}

// P12.5: who walks by Next, always on at a place by chance, comes to places that Reach tells, and to all of them sooner or later.
func TestWalk(t *testing.T) {
	r := rand.New(rand.NewSource(128))
	for range 300 {
		l := byChance(r)
		is, seen := Reach(l), make([]bool, len(l))
		work := []int{0}
		for len(work) > 0 {
			i := r.Intn(len(work))
			at := work[i]
			work = slices.Delete(work, i, i+1)
			if at == len(l) || seen[at] {
				continue
			}
			seen[at] = true
			work = append(work, Next(l, at)...)
		}
		if !slices.Equal(seen, is) {
			t.Errorf("%v: %v; Reach %v", l, seen, is)
		}
	}
}
