package instr

import (
	"math"
	"math/rand"
	"slices"
	"strings"
	"testing"

	"becket/api"
	"becket/opcode"
)

// table is what the chapters tell of each opcode: its form, and the bytes that stand for registers whose words are asked, and that get one (of a byte g only where it is no 8).
var table = []struct {
	name, form, reads, writes string
}{
	{"nop", "---", "", ""},
	{"halt", "---", "", ""},
	{"mov", "rr-", "B", "A"},
	{"set", "rij", "", "A"},
	{"add", "rrr", "BC", "A"},
	{"sub", "rrr", "BC", "A"},
	{"mul", "rrr", "BC", "A"},
	{"div", "rrr", "BC", "A"},
	{"rem", "rrr", "BC", "A"},
	{"and", "rrr", "BC", "A"},
	{"or", "rrr", "BC", "A"},
	{"xor", "rrr", "BC", "A"},
	{"shl", "rrr", "BC", "A"},
	{"shr", "rrr", "BC", "A"},
	{"not", "rr-", "B", "A"},
	{"neg", "rr-", "B", "A"},
	{"lt", "rrr", "BC", "A"},
	{"eq", "rrr", "BC", "A"},
	{"jmp", "t--", "", ""},
	{"jz", "rt-", "A", ""},
	{"jnz", "rt-", "A", ""},
	{"jbad", "t--", "", ""},
	{"call", "t--", "", ""},
	{"ret", "---", "", ""},
	{"load", "rr-", "B", "A"},
	{"store", "rr-", "AB", ""},
	{"fail", "s--", "", ""},
	{"emit", "r--", "A", ""},
	{"now", "r--", "", "A"},
	{"me", "r--", "", "A"},
	{"spawn", "rpr", "C", "A"},
	{"join", "r--", "A", "A"},
	{"sleep", "r--", "A", ""},
	{"send", "cr-", "B", ""},
	{"recv", "cr-", "", "B"},
	{"poison", "cr-", "B", ""},
	{"enrol", "b--", "", ""},
	{"resign", "b--", "", ""},
	{"sync", "b--", "", ""},
	{"fall", "k--", "", ""},
	{"flush", "rk-", "", "A"},
	{"alt", "rmn", "", "A"},
	{"gin", "crg", "C", "B"},
	{"gbar", "b-g", "C", ""},
	{"gtime", "r-g", "AC", ""},
	{"gskip", "--g", "C", ""},
	{"phase", "rb-", "", "A"},
	{"size", "rb-", "", "A"},
}

// limits are the first and the last value of a byte, by its letter.
var limits = map[byte][2]int{
	'-': {0, 0},
	'r': {0, 7},
	'i': {0, 255},
	'j': {0, 255},
	't': {0, 64},
	'c': {0, 7},
	'b': {0, 7},
	'k': {0, 3},
	'p': {0, 7},
	'm': {0, 2},
	'n': {1, 6},
	'g': {0, 8},
	's': {1, 255},
}

// picked are bytes at the edges of all letters, at those of smaller types, and in between.
var picked = []uint8{0, 1, 2, 3, 4, 5, 6, 7, 8, 9, 63, 64, 65, 127, 128, 254, 255}

// far are places that no text has: below 0, and such as come into a text, when something is added to them, or when they are cut to fewer bits.
var far = []int{math.MinInt, math.MinInt + 1, math.MinInt + 4, -1 << 62, -1<<32 - 1, -1 << 32, -1<<32 + 4, -65536, -256, -5, -4, -3, -2, -1}

// behind are places that lie far behind any text of the tests.
var behind = []int{1 << 16, 1<<31 - 1, 1 << 31, 1 << 32, 1<<32 + 4, 1 << 62, math.MaxInt - 8, math.MaxInt - 4, math.MaxInt - 3, math.MaxInt - 1, math.MaxInt}

// of is an instruction by its bytes.
func of(op, a, b, c uint8) api.Instr { return api.Instr{Op: op, A: a, B: b, C: c} }

// bytesOf are the bytes behind an instruction's opcode.
func bytesOf(x api.Instr) []uint8 { return []uint8{x.A, x.B, x.C} }

// checked is what the chapter asks of Check.
func checked(x api.Instr) api.Errno {
	if int(x.Op) >= len(table) {
		return api.ErrCode
	}
	for i, b := range bytesOf(x) {
		letter := table[x.Op].form[i]
		if l := limits[letter]; int(b) < l[0] || int(b) > l[1] {
			if letter == '-' {
				return api.ErrForm
			}
			return api.ErrRange
		}
	}
	return api.OK
}

// listed are the registers that these letters of A, B and C tell, as the chapter asks for them.
func listed(x api.Instr, letters string) []int {
	var out []int
	if checked(x) != api.OK {
		return nil
	}
	for r := range 8 {
		for i, b := range bytesOf(x) {
			if int(b) == r && strings.Contains(letters, "ABC"[i:i+1]) && !slices.Contains(out, r) {
				out = append(out, r)
			}
		}
	}
	return out
}

// every calls a function with each opcode, be it one or none, and each three of the picked bytes.
func every(f func(x api.Instr)) {
	for op := range 256 {
		for _, a := range picked {
			for _, b := range picked {
				for _, c := range picked {
					f(of(uint8(op), a, b, c))
				}
			}
		}
	}
}

// taken are all instructions of an opcode that Check is to take; of numbers with a sign those whose bytes are picked ones.
func taken(op uint8) []api.Instr {
	values := func(letter byte) []uint8 {
		if letter == 'i' || letter == 'j' {
			return picked
		}
		var out []uint8
		for b := limits[letter][0]; b <= limits[letter][1]; b++ {
			out = append(out, uint8(b))
		}
		return out
	}
	form := table[op].form
	var out []api.Instr
	for _, a := range values(form[0]) {
		for _, b := range values(form[1]) {
			for _, c := range values(form[2]) {
				out = append(out, of(op, a, b, c))
			}
		}
	}
	return out
}

// checks fails, unless Check answers so.
func checks(t *testing.T, x api.Instr, want api.Errno) {
	t.Helper()
	if got := Check(x); got != want {
		t.Errorf("Check(%v): %d; want %d", x, got, want)
	}
}

// numbered fails, unless Num answers so.
func numbered(t *testing.T, x api.Instr, want int) {
	t.Helper()
	if got := Num(x); got != want {
		t.Errorf("Num(%v): %d; want %d", x, got, want)
	}
}

// placed fails, unless Place answers so.
func placed(t *testing.T, x api.Instr, want int, is bool) {
	t.Helper()
	if got, ok := Place(x); got != want || ok != is {
		t.Errorf("Place(%v): %d, %v; want %d, %v", x, got, ok, want, is)
	}
}

// asks fails, unless Reads and Writes answer so.
func asks(t *testing.T, x api.Instr, reads, writes []int) {
	t.Helper()
	if got := Reads(x); !slices.Equal(got, reads) {
		t.Errorf("Reads(%v): %v; want %v", x, got, reads)
	}
	if got := Writes(x); !slices.Equal(got, writes) {
		t.Errorf("Writes(%v): %v; want %v", x, got, writes)
	}
}

// reads fails, unless Read answers so.
func reads(t *testing.T, s string, at int, want api.Instr, err api.Errno) {
	t.Helper()
	if got, e := Read(s, at); got != want || e != err {
		t.Errorf("Read(%.40q of %d, %d): %v, %d; want %v, %d", s, len(s), at, got, e, want, err)
	}
}

// readAnew fails, unless Read answers what the chapter asks for.
func readAnew(t *testing.T, s string, at int) {
	t.Helper()
	switch {
	case at < 0 || at > len(s):
		reads(t, s, at, api.Instr{}, api.ErrRange)
	case at == len(s) || at == len(s)-1 || at == len(s)-2 || at == len(s)-3:
		reads(t, s, at, api.Instr{}, api.ErrEnd)
	default:
		x := of(s[at], s[at+1], s[at+2], s[at+3])
		if e := checked(x); e != api.OK {
			reads(t, s, at, api.Instr{}, e)
		} else {
			reads(t, s, at, x, api.OK)
		}
	}
}

// The chapter's example.
func TestExamples(t *testing.T) {
	x := of(3, 2, 255, 254)
	checks(t, x, api.OK)
	numbered(t, x, -2)
	asks(t, x, nil, []int{2})
	reads(t, "\x03\x02\xff\xfe", 0, x, api.OK)
}

// The table of these tests is that of layer 9.
func TestTable(t *testing.T) {
	if len(table) != 48 {
		t.Fatalf("%d lines", len(table))
	}
	for op, l := range table {
		if opcode.Name(op) != l.name || opcode.Form(op) != l.form {
			t.Errorf("%d: %q, %q; want %q, %q", op, l.name, l.form, opcode.Name(op), opcode.Form(op))
		}
	}
}

// P10.1: each opcode, with the first and the last value that each of its bytes may have, and with those just outside of them, and far off.
func TestCheckEdges(t *testing.T) {
	for op, l := range table {
		for i := range 3 {
			fine := []uint8{uint8(limits[l.form[0]][0]), uint8(limits[l.form[1]][0]), uint8(limits[l.form[2]][0])}
			checks(t, of(uint8(op), fine[0], fine[1], fine[2]), api.OK)
			wrong := api.ErrRange
			if l.form[i] == '-' {
				wrong = api.ErrForm
			}
			for b := range 256 {
				fine[i] = uint8(b)
				want := wrong
				if limits[l.form[i]][0] <= b && b <= limits[l.form[i]][1] {
					want = api.OK
				}
				checks(t, of(uint8(op), fine[0], fine[1], fine[2]), want)
			}
		}
	}
}

// P10.1: of each letter the last value that may be, and the first that may not.
func TestCheckLetters(t *testing.T) {
	for _, c := range []struct {
		x    api.Instr
		want api.Errno
	}{
		{of(opcode.Mov, 7, 7, 0), api.OK}, {of(opcode.Mov, 8, 7, 0), api.ErrRange}, {of(opcode.Mov, 7, 8, 0), api.ErrRange},
		{of(opcode.Add, 7, 7, 7), api.OK}, {of(opcode.Add, 7, 7, 8), api.ErrRange}, {of(opcode.Add, 7, 7, 255), api.ErrRange},
		{of(opcode.Set, 7, 255, 255), api.OK}, {of(opcode.Set, 0, 0, 0), api.OK}, {of(opcode.Set, 8, 0, 0), api.ErrRange},
		{of(opcode.Jmp, 64, 0, 0), api.OK}, {of(opcode.Jmp, 65, 0, 0), api.ErrRange}, {of(opcode.Call, 64, 0, 0), api.OK}, {of(opcode.Call, 65, 0, 0), api.ErrRange},
		{of(opcode.Jbad, 0, 0, 0), api.OK}, {of(opcode.Jbad, 255, 0, 0), api.ErrRange}, {of(opcode.Jz, 7, 64, 0), api.OK}, {of(opcode.Jnz, 7, 65, 0), api.ErrRange},
		{of(opcode.Send, 7, 7, 0), api.OK}, {of(opcode.Send, 8, 7, 0), api.ErrRange}, {of(opcode.Recv, 7, 8, 0), api.ErrRange}, {of(opcode.Poison, 8, 0, 0), api.ErrRange},
		{of(opcode.Sync, 7, 0, 0), api.OK}, {of(opcode.Sync, 8, 0, 0), api.ErrRange}, {of(opcode.Phase, 7, 7, 0), api.OK}, {of(opcode.Size, 7, 8, 0), api.ErrRange},
		{of(opcode.Fall, 3, 0, 0), api.OK}, {of(opcode.Fall, 4, 0, 0), api.ErrRange}, {of(opcode.Flush, 7, 3, 0), api.OK}, {of(opcode.Flush, 7, 4, 0), api.ErrRange},
		{of(opcode.Spawn, 7, 7, 7), api.OK}, {of(opcode.Spawn, 7, 8, 7), api.ErrRange}, {of(opcode.Spawn, 7, 7, 8), api.ErrRange},
		{of(opcode.Alt, 7, 2, 6), api.OK}, {of(opcode.Alt, 7, 3, 6), api.ErrRange}, {of(opcode.Alt, 7, 2, 7), api.ErrRange}, {of(opcode.Alt, 7, 2, 1), api.OK}, {of(opcode.Alt, 7, 2, 0), api.ErrRange},
		{of(opcode.Gin, 7, 7, 8), api.OK}, {of(opcode.Gin, 7, 7, 9), api.ErrRange}, {of(opcode.Gin, 7, 8, 8), api.ErrRange}, {of(opcode.Gskip, 0, 0, 8), api.OK}, {of(opcode.Gskip, 0, 0, 9), api.ErrRange},
		{of(opcode.Gbar, 7, 0, 7), api.OK}, {of(opcode.Gbar, 7, 1, 7), api.ErrForm}, {of(opcode.Gtime, 7, 0, 8), api.OK}, {of(opcode.Gtime, 8, 0, 8), api.ErrRange},
		{of(opcode.Fail, 1, 0, 0), api.OK}, {of(opcode.Fail, 0, 0, 0), api.ErrRange}, {of(opcode.Fail, 255, 0, 0), api.OK}, {of(opcode.Fail, 1, 1, 0), api.ErrForm},
		{of(opcode.Nop, 0, 0, 0), api.OK}, {of(opcode.Nop, 1, 0, 0), api.ErrForm}, {of(opcode.Halt, 0, 1, 0), api.ErrForm}, {of(opcode.Ret, 0, 0, 1), api.ErrForm}, {of(opcode.Ret, 0, 0, 255), api.ErrForm},
	} {
		checks(t, c.x, c.want)
	}
}

// P10.1: where more than one byte is wrong, the first one tells the error, be it to be nothing or not.
func TestCheckOrder(t *testing.T) {
	checks(t, of(opcode.Mov, 8, 0, 1), api.ErrRange)
	checks(t, of(opcode.Mov, 0, 8, 1), api.ErrRange)
	checks(t, of(opcode.Jz, 0, 65, 1), api.ErrRange)
	checks(t, of(opcode.Gbar, 8, 1, 9), api.ErrRange)
	checks(t, of(opcode.Gbar, 0, 1, 9), api.ErrForm)
	checks(t, of(opcode.Gtime, 0, 255, 255), api.ErrForm)
	checks(t, of(opcode.Gskip, 1, 0, 9), api.ErrForm)
	checks(t, of(opcode.Gskip, 0, 1, 9), api.ErrForm)
	checks(t, of(opcode.Fail, 0, 1, 1), api.ErrRange)
	checks(t, of(opcode.Sync, 8, 1, 0), api.ErrRange)
}

// P10.1: all opcodes and numbers that are none, with all bytes that are picked.
func TestCheckEvery(t *testing.T) {
	every(func(x api.Instr) { checks(t, x, checked(x)) })
}

// P10.1: a number that is no opcode comes ahead of all else.
func TestCheckCode(t *testing.T) {
	for op := 48; op < 256; op++ {
		for _, x := range []api.Instr{of(uint8(op), 0, 0, 0), of(uint8(op), 1, 0, 0), of(uint8(op), 1, 1, 1), of(uint8(op), 255, 255, 255)} {
			checks(t, x, api.ErrCode)
			numbered(t, x, 0)
			placed(t, x, 0, false)
			asks(t, x, nil, nil)
		}
	}
}

// P10.1: bytes by chance.
func TestCheckChance(t *testing.T) {
	r := rand.New(rand.NewSource(101))
	for range 300000 {
		x := of(uint8(r.Intn(64)), uint8(r.Intn(256)>>r.Intn(9)), uint8(r.Intn(256)>>r.Intn(9)), uint8(r.Intn(256)>>r.Intn(9)))
		checks(t, x, checked(x))
	}
}

// P10.2: numbers of 16 bits, at their ends and in between, whatever register gets them.
func TestNum(t *testing.T) {
	for _, c := range []struct {
		b, c uint8
		want int
	}{
		{0, 0, 0}, {0, 1, 1}, {0, 127, 127}, {0, 128, 128}, {0, 255, 255}, {1, 0, 256}, {1, 2, 258}, {127, 254, 32766}, {127, 255, 32767}, {128, 0, -32768}, {128, 1, -32767}, {255, 0, -256}, {255, 127, -129}, {255, 128, -128}, {255, 254, -2}, {255, 255, -1},
	} {
		for _, a := range []uint8{0, 2, 7, 8, 255} {
			numbered(t, of(opcode.Set, a, c.b, c.c), c.want)
		}
	}
	for n := math.MinInt16; n <= math.MaxInt16; n++ {
		numbered(t, of(opcode.Set, 1, uint8(n>>8), uint8(n)), n)
	}
}

// P10.2: instructions of other forms have no number, whatever their bytes are.
func TestNumNone(t *testing.T) {
	every(func(x api.Instr) {
		if x.Op != 3 {
			numbered(t, x, 0)
		}
	})
}

// P10.2: the place of each form that has one, in A and in B, whether Check takes the instruction or not.
func TestPlace(t *testing.T) {
	for b := range 256 {
		for _, other := range []uint8{0, 1, 7, 8, 64, 65, 255} {
			p := uint8(b)
			placed(t, of(opcode.Jmp, p, other, 0), b, true)
			placed(t, of(opcode.Jbad, p, 0, other), b, true)
			placed(t, of(opcode.Call, p, other, other), b, true)
			placed(t, of(opcode.Jz, other, p, 0), b, true)
			placed(t, of(opcode.Jnz, other, p, other), b, true)
		}
	}
}

// P10.2: just the opcodes whose form has one have a place: others have none, and a place of 0 is one.
func TestPlaceNone(t *testing.T) {
	every(func(x api.Instr) {
		switch x.Op {
		case 18, 21, 22:
			placed(t, x, int(x.A), true)
		case 19, 20:
			placed(t, x, int(x.B), true)
		default:
			placed(t, x, 0, false)
		}
	})
}

// P10.3: one instruction of each kind, with registers that rise and fall.
func TestRegisters(t *testing.T) {
	for _, c := range []struct {
		x             api.Instr
		reads, writes []int
	}{
		{of(opcode.Nop, 0, 0, 0), nil, nil}, {of(opcode.Halt, 0, 0, 0), nil, nil}, {of(opcode.Ret, 0, 0, 0), nil, nil}, {of(opcode.Fail, 5, 0, 0), nil, nil},
		{of(opcode.Mov, 1, 2, 0), []int{2}, []int{1}}, {of(opcode.Mov, 2, 2, 0), []int{2}, []int{2}}, {of(opcode.Set, 4, 1, 2), nil, []int{4}},
		{of(opcode.Add, 1, 2, 3), []int{2, 3}, []int{1}}, {of(opcode.Sub, 3, 2, 1), []int{1, 2}, []int{3}}, {of(opcode.Mul, 5, 5, 5), []int{5}, []int{5}}, {of(opcode.Div, 0, 7, 0), []int{0, 7}, []int{0}},
		{of(opcode.Rem, 7, 6, 0), []int{0, 6}, []int{7}}, {of(opcode.And, 7, 0, 6), []int{0, 6}, []int{7}}, {of(opcode.Or, 0, 0, 0), []int{0}, []int{0}}, {of(opcode.Xor, 1, 7, 7), []int{7}, []int{1}},
		{of(opcode.Shl, 2, 4, 3), []int{3, 4}, []int{2}}, {of(opcode.Shr, 2, 3, 4), []int{3, 4}, []int{2}}, {of(opcode.Not, 3, 6, 0), []int{6}, []int{3}}, {of(opcode.Neg, 6, 3, 0), []int{3}, []int{6}},
		{of(opcode.Lt, 0, 2, 1), []int{1, 2}, []int{0}}, {of(opcode.Eq, 4, 1, 1), []int{1}, []int{4}},
		{of(opcode.Jmp, 7, 0, 0), nil, nil}, {of(opcode.Jz, 7, 3, 0), []int{7}, nil}, {of(opcode.Jnz, 0, 3, 0), []int{0}, nil}, {of(opcode.Jbad, 3, 0, 0), nil, nil}, {of(opcode.Call, 3, 0, 0), nil, nil},
		{of(opcode.Load, 1, 6, 0), []int{6}, []int{1}}, {of(opcode.Store, 1, 6, 0), []int{1, 6}, nil}, {of(opcode.Store, 6, 1, 0), []int{1, 6}, nil}, {of(opcode.Store, 2, 2, 0), []int{2}, nil},
		{of(opcode.Emit, 3, 0, 0), []int{3}, nil}, {of(opcode.Now, 3, 0, 0), nil, []int{3}}, {of(opcode.Me, 3, 0, 0), nil, []int{3}}, {of(opcode.Spawn, 1, 2, 3), []int{3}, []int{1}}, {of(opcode.Spawn, 1, 1, 1), []int{1}, []int{1}},
		{of(opcode.Join, 4, 0, 0), []int{4}, []int{4}}, {of(opcode.Sleep, 4, 0, 0), []int{4}, nil}, {of(opcode.Send, 1, 2, 0), []int{2}, nil}, {of(opcode.Recv, 1, 2, 0), nil, []int{2}}, {of(opcode.Poison, 1, 2, 0), []int{2}, nil},
		{of(opcode.Enrol, 1, 0, 0), nil, nil}, {of(opcode.Resign, 1, 0, 0), nil, nil}, {of(opcode.Sync, 1, 0, 0), nil, nil}, {of(opcode.Fall, 1, 0, 0), nil, nil}, {of(opcode.Flush, 2, 1, 0), nil, []int{2}},
		{of(opcode.Alt, 5, 1, 3), nil, []int{5}}, {of(opcode.Phase, 2, 1, 0), nil, []int{2}}, {of(opcode.Size, 2, 1, 0), nil, []int{2}},
		{of(opcode.Gin, 1, 2, 3), []int{3}, []int{2}}, {of(opcode.Gin, 1, 2, 8), nil, []int{2}}, {of(opcode.Gin, 3, 3, 3), []int{3}, []int{3}},
		{of(opcode.Gbar, 1, 0, 3), []int{3}, nil}, {of(opcode.Gbar, 1, 0, 8), nil, nil}, {of(opcode.Gskip, 0, 0, 0), []int{0}, nil}, {of(opcode.Gskip, 0, 0, 7), []int{7}, nil}, {of(opcode.Gskip, 0, 0, 8), nil, nil},
		{of(opcode.Gtime, 1, 0, 3), []int{1, 3}, nil}, {of(opcode.Gtime, 3, 0, 1), []int{1, 3}, nil}, {of(opcode.Gtime, 3, 0, 3), []int{3}, nil}, {of(opcode.Gtime, 0, 0, 8), []int{0}, nil}, {of(opcode.Gtime, 7, 0, 0), []int{0, 7}, nil},
	} {
		asks(t, c.x, c.reads, c.writes)
	}
}

// P10.3: all instructions that Check takes.
func TestRegistersTaken(t *testing.T) {
	for op, l := range table {
		for _, x := range taken(uint8(op)) {
			checks(t, x, api.OK)
			asks(t, x, listed(x, l.reads), listed(x, l.writes))
		}
	}
}

// P10.3: of an instruction that Check does not take there are no registers, whichever byte is wrong; none is told that is no register.
func TestRegistersNone(t *testing.T) {
	asks(t, of(opcode.Mov, 1, 2, 1), nil, nil)
	asks(t, of(opcode.Mov, 8, 2, 0), nil, nil)
	asks(t, of(opcode.Add, 1, 2, 8), nil, nil)
	asks(t, of(opcode.Gin, 8, 2, 3), nil, nil)
	asks(t, of(opcode.Gtime, 1, 1, 3), nil, nil)
	asks(t, of(opcode.Gskip, 0, 0, 9), nil, nil)
	asks(t, of(opcode.Alt, 1, 2, 0), nil, nil)
	every(func(x api.Instr) {
		if checked(x) != api.OK {
			asks(t, x, nil, nil)
		}
	})
}

// P10.3: what is answered is the caller's own.
func TestRegistersOwn(t *testing.T) {
	x := of(opcode.Add, 3, 2, 1)
	for _, f := range []func(api.Instr) []int{Reads, Writes} {
		first := f(x)
		want := slices.Clone(first)
		clear(first)
		_ = append(first[:0], 70, 71)
		if got := f(x); !slices.Equal(got, want) {
			t.Errorf("%v; want %v", got, want)
		}
	}
}

// P10.4: the bytes of any instruction, be it one that Check takes or not.
func TestBytes(t *testing.T) {
	for _, c := range []struct {
		x    api.Instr
		want string
	}{
		{of(3, 2, 255, 254), "\x03\x02\xff\xfe"}, {of(0, 0, 0, 0), "\x00\x00\x00\x00"}, {of(41, 1, 2, 3), "\x29\x01\x02\x03"}, {of(255, 128, 127, 194), "\xff\x80\x7f\xc2"},
	} {
		if got := Bytes(c.x); got != c.want {
			t.Errorf("Bytes(%v): %q; want %q", c.x, got, c.want)
		}
	}
	every(func(x api.Instr) {
		if s := Bytes(x); len(s) != 4 || s[0] != x.Op || s[1] != x.A || s[2] != x.B || s[3] != x.C {
			t.Errorf("Bytes(%v): %q", x, s)
		}
	})
}

// P10.4: places below 0, far below it, behind the end and far behind it, of texts of all kinds: such as are empty, too short, and no instruction, too.
func TestReadRange(t *testing.T) {
	for _, s := range []string{"", "\x00", "\x00\x00\x00", "\x00\x00\x00\x00", "\x00\x00\x00\x00\x00", "\xff\xff\xff\xff", strings.Repeat("\x00", 300)} {
		for _, at := range slices.Concat(far, behind, []int{len(s) + 1, len(s) + 2, len(s) + 3, len(s) + 4, len(s) + 5}) {
			reads(t, s, at, api.Instr{}, api.ErrRange)
		}
	}
}

// P10.4: the end of a text, and one to three bytes ahead of it, whatever these are.
func TestReadEnd(t *testing.T) {
	for _, s := range []string{"", "\x00", "\x00\x00", "\x00\x00\x00", "\xff", "\xff\xff\xff", "\x03\x02\xff"} {
		reads(t, s, 0, api.Instr{}, api.ErrEnd)
		reads(t, s, len(s), api.Instr{}, api.ErrEnd)
		for _, ahead := range []string{"\x00\x00\x00\x00", "\x03\x02\xff\xfe", "\xff\xff\xff\xff\xff"} {
			reads(t, ahead+s, len(ahead), api.Instr{}, api.ErrEnd)
		}
	}
}

// P10.4: four bytes that are no instruction have Check's error, and nothing else is answered.
func TestReadWrong(t *testing.T) {
	for _, c := range []struct {
		s    string
		want api.Errno
	}{
		{"\x30\x00\x00\x00", api.ErrCode}, {"\xff\x00\x00\x00", api.ErrCode}, {"\xff\xff\xff\xff", api.ErrCode},
		{"\x00\x01\x00\x00", api.ErrForm}, {"\x00\x00\x00\x01", api.ErrForm}, {"\x02\x08\x00\x00", api.ErrRange}, {"\x02\x08\x00\x01", api.ErrRange}, {"\x12\x41\x00\x00", api.ErrRange}, {"\x1a\x00\x00\x00", api.ErrRange}, {"\x29\x00\x00\x00", api.ErrRange},
	} {
		reads(t, c.s, 0, api.Instr{}, c.want)
		reads(t, "\x00"+c.s, 1, api.Instr{}, c.want)
		reads(t, c.s+"\x00", 0, api.Instr{}, c.want)
	}
}

// P10.4: just the four bytes from the place on are asked, not those ahead of it or behind it.
func TestReadLonger(t *testing.T) {
	x := of(opcode.Add, 1, 2, 3)
	for _, ahead := range []string{"", "\x00", "\xff\xff\xff", "\x03\x02\xff\xfe", "\u00e9\u20ac", strings.Repeat("\xff", 70000)} {
		for _, rest := range []string{"", "\x00", "\xff", "\x03\x02\xff", "\x03\x02\xff\xfe", strings.Repeat("\xff", 70000)} {
			reads(t, ahead+"\x04\x01\x02\x03"+rest, len(ahead), x, api.OK)
		}
	}
}

// P10.4: all instructions of picked bytes.
func TestReadEvery(t *testing.T) {
	every(func(x api.Instr) { readAnew(t, string([]byte{x.Op, x.A, x.B, x.C}), 0) })
}

// P10.4: each place of texts by chance, and those beside them.
func TestReadChance(t *testing.T) {
	r := rand.New(rand.NewSource(104))
	for range 3000 {
		text := make([]byte, r.Intn(24))
		for i := range text {
			text[i] = uint8(r.Intn(256) >> r.Intn(9))
		}
		for at := -6; at <= len(text)+6; at++ {
			readAnew(t, string(text), at)
		}
	}
}

// P10.5: each instruction that Check takes is read again from its bytes: from their start, and one behind the other from a text of all.
func TestAgain(t *testing.T) {
	var all strings.Builder
	var list []api.Instr
	for op := range table {
		for _, x := range taken(uint8(op)) {
			reads(t, Bytes(x), 0, x, api.OK)
			all.WriteString(Bytes(x))
			list = append(list, x)
		}
	}
	for i, x := range list {
		reads(t, all.String(), 4*i, x, api.OK)
	}
	reads(t, all.String(), 4*len(list), api.Instr{}, api.ErrEnd)
}

// P10.5: numbers with a sign are read again, all of them.
func TestAgainNum(t *testing.T) {
	for n := math.MinInt16; n <= math.MaxInt16; n++ {
		x := of(opcode.Set, 7, uint8(n>>8), uint8(n))
		got, e := Read("."+Bytes(x), 1)
		if got != x || e != api.OK || Num(got) != n {
			t.Errorf("set r7 %d: %v, %d", n, got, e)
		}
	}
}

// P10.5: an instruction is read again from any place of a longer text, whether what is beside it is one or not.
func TestAgainPlaces(t *testing.T) {
	r := rand.New(rand.NewSource(105))
	for op := range table {
		list := taken(uint8(op))
		x := list[r.Intn(len(list))]
		for at := range 40 {
			text := make([]byte, 44+r.Intn(8))
			for i := range text {
				text[i] = uint8(r.Intn(256))
			}
			copy(text[at:], Bytes(x))
			reads(t, string(text), at, x, api.OK)
		}
	}
}
