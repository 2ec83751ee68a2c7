package asm

import (
	"fmt"
	"math/big"
	"math/rand"
	"regexp"
	"slices"
	"strings"
	"testing"

	"becket/api"
	"becket/instr"
	"becket/opcode"
)

// table is what the chapter of opcodes tells of each: its name and its form.
var table = []struct{ name, form string }{
	{"nop", "---"}, {"halt", "---"}, {"mov", "rr-"}, {"set", "rij"},
	{"add", "rrr"}, {"sub", "rrr"}, {"mul", "rrr"}, {"div", "rrr"}, {"rem", "rrr"}, {"and", "rrr"}, {"or", "rrr"}, {"xor", "rrr"}, {"shl", "rrr"}, {"shr", "rrr"},
	{"not", "rr-"}, {"neg", "rr-"}, {"lt", "rrr"}, {"eq", "rrr"},
	{"jmp", "t--"}, {"jz", "rt-"}, {"jnz", "rt-"}, {"jbad", "t--"}, {"call", "t--"}, {"ret", "---"},
	{"load", "rr-"}, {"store", "rr-"}, {"fail", "s--"}, {"emit", "r--"}, {"now", "r--"}, {"me", "r--"}, {"spawn", "rpr"}, {"join", "r--"}, {"sleep", "r--"},
	{"send", "cr-"}, {"recv", "cr-"}, {"poison", "cr-"}, {"enrol", "b--"}, {"resign", "b--"}, {"sync", "b--"}, {"fall", "k--"}, {"flush", "rk-"},
	{"alt", "rmn"}, {"gin", "crg"}, {"gbar", "b-g"}, {"gtime", "r-g"}, {"gskip", "--g"}, {"phase", "rb-"}, {"size", "rb-"},
}

// limits are the first and the last value of a byte, by its letter; of g the value 8 is told by nothing.
var limits = map[byte][2]int{
	'-': {0, 0}, 'r': {0, 7}, 'i': {0, 255}, 'j': {0, 255}, 't': {0, 64}, 'c': {0, 7}, 'b': {0, 7}, 'k': {0, 3}, 'p': {0, 7}, 'm': {0, 2}, 'n': {1, 6}, 'g': {0, 8}, 's': {1, 255},
}

// forms are what a word is to look like, by its letter, whatever its number is; of i it is that of the number of both bytes.
var forms = map[byte]*regexp.Regexp{
	'r': regexp.MustCompile(`\Ar(0|[1-9][0-9]*)\z`),
	't': regexp.MustCompile(`\A@(0|[1-9][0-9]*)\z`),
	'c': regexp.MustCompile(`\Ac(0|[1-9][0-9]*)\z`),
	'b': regexp.MustCompile(`\Ab(0|[1-9][0-9]*)\z`),
	'k': regexp.MustCompile(`\Ak(0|[1-9][0-9]*)\z`),
	'p': regexp.MustCompile(`\Ap(0|[1-9][0-9]*)\z`),
	'n': regexp.MustCompile(`\A(0|[1-9][0-9]*)\z`),
	's': regexp.MustCompile(`\A(0|[1-9][0-9]*)\z`),
	'i': regexp.MustCompile(`\A(0|-?[1-9][0-9]*)\z`),
}

// numbers are numbers of 16 bits with a sign at their ends, at those of bytes, and in between.
var numbers = []int{-32768, -32767, -32513, -32512, -4097, -300, -257, -256, -255, -129, -128, -127, -10, -2, -1, 0, 1, 2, 9, 10, 11, 64, 99, 100, 127, 128, 129, 255, 256, 257, 300, 999, 1000, 4096, 10000, 32511, 32512, 32766, 32767}

// of is an instruction by its bytes.
func of(op, a, b, c uint8) api.Instr { return api.Instr{Op: op, A: a, B: b, C: c} }

// set is the instruction by which a register gets a number.
func set(r uint8, n int) api.Instr { return of(opcode.Set, r, uint8(n>>8), uint8(n)) }

// told is what the chapter asks of a byte's words, with the blank ahead.
func told(letter byte, b uint8) string {
	switch letter {
	case '-', 'j':
		return ""
	case 'g':
		if b == 8 {
			return ""
		}
		return fmt.Sprintf(" if r%d", b)
	case 'm':
		return " " + []string{"pri", "fair", "any"}[b]
	case 't':
		return fmt.Sprintf(" @%d", b)
	case 'n', 's':
		return fmt.Sprintf(" %d", b)
	}
	return fmt.Sprintf(" %c%d", letter, b)
}

// lineOf is what the chapter asks of the line of an instruction that may be.
func lineOf(x api.Instr) string {
	l := table[x.Op]
	if l.form == "rij" {
		return fmt.Sprintf("set r%d %d", x.A, int16(x.B)<<8|int16(x.C))
	}
	return l.name + told(l.form[0], x.A) + told(l.form[1], x.B) + told(l.form[2], x.C)
}

// wordsIn are a line's words.
func wordsIn(line string) []string {
	return slices.DeleteFunc(strings.Split(line, " "), func(w string) bool { return w == "" })
}

// judged is what a word of a letter tells, as the chapter asks for it; of i it is the number of both bytes.
func judged(letter byte, w string) (int, api.Errno) {
	if letter == 'm' {
		if i := slices.Index([]string{"pri", "fair", "any"}, w); i >= 0 {
			return i, api.OK
		}
		return 0, api.ErrForm
	}
	if !forms[letter].MatchString(w) {
		return 0, api.ErrForm
	}
	n, ok := new(big.Int).SetString(strings.TrimLeft(w, "r@cbkp"), 10)
	if !ok {
		panic(w)
	}
	l := limits[letter]
	if letter == 'i' {
		l = [2]int{-32768, 32767}
	}
	if n.Cmp(big.NewInt(int64(l[0]))) < 0 || n.Cmp(big.NewInt(int64(l[1]))) > 0 {
		return 0, api.ErrRange
	}
	return int(n.Int64()), api.OK
}

// parsed is what the chapter asks of Parse.
func parsed(line string) (api.Instr, api.Errno) {
	words := wordsIn(line)
	if len(words) == 0 {
		return api.Instr{}, api.ErrEmpty
	}
	op := 0
	for op < len(table) && table[op].name != words[0] {
		op++
	}
	if op == len(table) {
		return api.Instr{}, api.ErrNone
	}
	words = words[1:]
	var b [3]uint8
	for i, letter := range []byte(table[op].form) {
		if letter == '-' || letter == 'j' {
			continue
		}
		if letter == 'g' {
			if len(words) == 0 {
				b[i] = 8
				continue
			}
			if words[0] != "if" {
				return api.Instr{}, api.ErrForm
			}
			words, letter = words[1:], 'r'
		}
		if len(words) == 0 {
			return api.Instr{}, api.ErrEnd
		}
		n, e := judged(letter, words[0])
		if e != api.OK {
			return api.Instr{}, e
		}
		words = words[1:]
		b[i] = uint8(n)
		if letter == 'i' {
			b[i], b[i+1] = uint8(n>>8), uint8(n)
		}
	}
	if len(words) > 0 {
		return api.Instr{}, api.ErrMany
	}
	return of(uint8(op), b[0], b[1], b[2]), api.OK
}

// readAll is what the chapter asks of Read.
func readAll(s string) ([]api.Instr, int, api.Errno) {
	var list []api.Instr
	for i, line := range strings.Split(s, "\n") {
		if len(wordsIn(line)) == 0 {
			continue
		}
		x, e := parsed(line)
		if e != api.OK {
			return nil, i + 1, e
		}
		list = append(list, x)
	}
	return list, 0, api.OK
}

// taken are all instructions of an opcode that may be; of set those of the numbers above.
func taken(op uint8) []api.Instr {
	var out []api.Instr
	if op == opcode.Set {
		for r := range 8 {
			for _, n := range numbers {
				out = append(out, set(uint8(r), n))
			}
		}
		return out
	}
	form := table[op].form
	for a := limits[form[0]][0]; a <= limits[form[0]][1]; a++ {
		for b := limits[form[1]][0]; b <= limits[form[1]][1]; b++ {
			for c := limits[form[2]][0]; c <= limits[form[2]][1]; c++ {
				out = append(out, of(op, uint8(a), uint8(b), uint8(c)))
			}
		}
	}
	return out
}

// some are the first and the last instruction of each opcode, and one in between.
func some() []api.Instr {
	var out []api.Instr
	for op := range table {
		l := taken(uint8(op))
		out = append(out, l[0], l[len(l)/2], l[len(l)-1])
	}
	return out
}

// texts fails, unless Text answers so.
func texts(t *testing.T, x api.Instr, want string, err api.Errno) {
	t.Helper()
	if got, e := Text(x); got != want || e != err {
		t.Errorf("Text(%v): %q, %d; want %q, %d", x, got, e, want, err)
	}
}

// parses fails, unless Parse answers so.
func parses(t *testing.T, line string, want api.Instr, err api.Errno) {
	t.Helper()
	if got, e := Parse(line); got != want || e != err {
		t.Errorf("Parse(%.80q of %d): %v, %d; want %v, %d", line, len(line), got, e, want, err)
	}
}

// refuses fails, unless Parse answers this error, and nothing else.
func refuses(t *testing.T, line string, err api.Errno) {
	t.Helper()
	parses(t, line, api.Instr{}, err)
}

// put fails, unless a line with another word in place of one of its own is refused, whatever is behind it.
func put(t *testing.T, words []string, i int, w string, err api.Errno) {
	t.Helper()
	head := strings.Join(append(slices.Clone(words[:i]), w), " ")
	refuses(t, head, err)
	refuses(t, strings.Join(append([]string{head}, words[i+1:]...), " "), err)
	refuses(t, head+" ? ? ? ?", err)
}

// parsesAnew fails, unless Parse answers what the chapter asks for.
func parsesAnew(t *testing.T, line string) {
	t.Helper()
	want, err := parsed(line)
	parses(t, line, want, err)
}

// prints fails, unless Print answers so.
func prints(t *testing.T, l []api.Instr, want string, err api.Errno) {
	t.Helper()
	if got, e := Print(l); got != want || e != err {
		t.Errorf("Print of %d, %.60v: %.80q, %d; want %.80q, %d", len(l), l, got, e, want, err)
	}
}

// reads fails, unless Read answers so.
func reads(t *testing.T, s string, want []api.Instr, line int, err api.Errno) {
	t.Helper()
	if got, n, e := Read(s); !slices.Equal(got, want) || n != line || e != err {
		t.Errorf("Read(%.80q of %d): %.60v, %d, %d; want %.60v, %d, %d", s, len(s), got, n, e, want, line, err)
	}
}

// readsAnew fails, unless Read answers what the chapter asks for.
func readsAnew(t *testing.T, s string) {
	t.Helper()
	want, line, err := readAll(s)
	reads(t, s, want, line, err)
}

// The chapter's examples.
func TestExamples(t *testing.T) {
	for _, c := range []struct {
		line string
		x    api.Instr
	}{
		{"gin c0 r1 if r2", of(opcode.Gin, 0, 1, 2)},
		{"set r2 -2", of(opcode.Set, 2, 255, 254)},
		{"alt r0 pri 2", of(opcode.Alt, 0, 0, 2)},
		{"jz r1 @7", of(opcode.Jz, 1, 7, 0)},
	} {
		texts(t, c.x, c.line, api.OK)
		parses(t, c.line, c.x, api.OK)
	}
}

// The table of these tests is that of layer 9, and their instructions are those that layer 10 takes.
func TestTable(t *testing.T) {
	if len(table) != opcode.Many {
		t.Fatalf("%d lines", len(table))
	}
	for op, l := range table {
		if opcode.Name(op) != l.name || opcode.Form(op) != l.form {
			t.Errorf("%d: %q, %q; want %q, %q", op, l.name, l.form, opcode.Name(op), opcode.Form(op))
		}
		for _, x := range taken(uint8(op)) {
			if e := instr.Check(x); e != api.OK {
				t.Errorf("%v: %d", x, e)
			}
		}
	}
}

// P11.1, P11.2: each opcode with a line of its own, written out.
func TestLines(t *testing.T) {
	lines := []string{
		"nop", "halt", "mov r1 r2", "set r3 258",
		"add r1 r2 r3", "sub r3 r2 r1", "mul r4 r4 r4", "div r7 r0 r1", "rem r0 r7 r1", "and r1 r0 r7", "or r5 r6 r7", "xor r7 r6 r5", "shl r0 r0 r1", "shr r2 r0 r0",
		"not r1 r2", "neg r2 r1", "lt r6 r5 r4", "eq r4 r5 r6",
		"jmp @12", "jz r1 @64", "jnz r2 @0", "jbad @7", "call @33", "ret",
		"load r1 r6", "store r6 r1", "fail 17", "emit r3", "now r4", "me r5", "spawn r1 p2 r3", "join r6", "sleep r7",
		"send c1 r2", "recv c2 r1", "poison c7 r0", "enrol b1", "resign b2", "sync b7", "fall k3", "flush r5 k1",
		"alt r1 fair 6", "gin c1 r2 if r3", "gbar b4 if r5", "gtime r6 if r7", "gskip if r1", "phase r2 b3", "size r3 b2",
	}
	bytes := [][3]uint8{
		{}, {}, {1, 2}, {3, 1, 2},
		{1, 2, 3}, {3, 2, 1}, {4, 4, 4}, {7, 0, 1}, {0, 7, 1}, {1, 0, 7}, {5, 6, 7}, {7, 6, 5}, {0, 0, 1}, {2, 0, 0},
		{1, 2}, {2, 1}, {6, 5, 4}, {4, 5, 6},
		{12}, {1, 64}, {2, 0}, {7}, {33}, {},
		{1, 6}, {6, 1}, {17}, {3}, {4}, {5}, {1, 2, 3}, {6}, {7},
		{1, 2}, {2, 1}, {7, 0}, {1}, {2}, {7}, {3}, {5, 1},
		{1, 1, 6}, {1, 2, 3}, {4, 0, 5}, {6, 0, 7}, {0, 0, 1}, {2, 3}, {3, 2},
	}
	if len(lines) != 48 || len(bytes) != 48 {
		t.Fatal(len(lines), len(bytes))
	}
	for op, line := range lines {
		x := of(uint8(op), bytes[op][0], bytes[op][1], bytes[op][2])
		texts(t, x, line, api.OK)
		parses(t, line, x, api.OK)
	}
}

// P11.1, P11.2: numbers of set at their ends and in between, written out.
func TestNumbers(t *testing.T) {
	for _, c := range []struct {
		b, c uint8
		line string
	}{
		{128, 0, "set r5 -32768"}, {128, 1, "set r5 -32767"}, {255, 0, "set r5 -256"}, {255, 255, "set r5 -1"}, {0, 0, "set r5 0"}, {0, 1, "set r5 1"}, {0, 10, "set r5 10"}, {0, 255, "set r5 255"}, {1, 0, "set r5 256"}, {127, 255, "set r5 32767"},
	} {
		texts(t, of(opcode.Set, 5, c.b, c.c), c.line, api.OK)
		parses(t, c.line, of(opcode.Set, 5, c.b, c.c), api.OK)
	}
}

// P11.1, P11.2: each way of choosing, with the fewest and the most guards.
func TestWays(t *testing.T) {
	for i, way := range []string{"pri", "fair", "any"} {
		for _, n := range []uint8{1, 2, 6} {
			line := fmt.Sprintf("alt r7 %s %d", way, n)
			texts(t, of(opcode.Alt, 7, uint8(i), n), line, api.OK)
			parses(t, line, of(opcode.Alt, 7, uint8(i), n), api.OK)
		}
	}
}

// P11.1, P11.2: a guard's registers 0 and 7 are told; 8 is none, and told by nothing.
func TestGuards(t *testing.T) {
	for _, c := range []struct {
		x    api.Instr
		line string
	}{
		{of(opcode.Gin, 7, 7, 0), "gin c7 r7 if r0"}, {of(opcode.Gin, 7, 7, 7), "gin c7 r7 if r7"}, {of(opcode.Gin, 0, 0, 8), "gin c0 r0"},
		{of(opcode.Gbar, 7, 0, 0), "gbar b7 if r0"}, {of(opcode.Gbar, 7, 0, 7), "gbar b7 if r7"}, {of(opcode.Gbar, 0, 0, 8), "gbar b0"},
		{of(opcode.Gtime, 7, 0, 0), "gtime r7 if r0"}, {of(opcode.Gtime, 7, 0, 7), "gtime r7 if r7"}, {of(opcode.Gtime, 0, 0, 8), "gtime r0"},
		{of(opcode.Gskip, 0, 0, 0), "gskip if r0"}, {of(opcode.Gskip, 0, 0, 7), "gskip if r7"}, {of(opcode.Gskip, 0, 0, 8), "gskip"},
	} {
		texts(t, c.x, c.line, api.OK)
		parses(t, c.line, c.x, api.OK)
	}
}

// P11.1: each instruction that may be has its line.
func TestTextTaken(t *testing.T) {
	for op := range table {
		for _, x := range taken(uint8(op)) {
			texts(t, x, lineOf(x), api.OK)
		}
	}
}

// P11.1: an instruction that Check does not take has no line, but Check's error: the first one's, byte by byte.
func TestTextErrors(t *testing.T) {
	for _, c := range []struct {
		x    api.Instr
		want api.Errno
	}{
		{of(48, 0, 0, 0), api.ErrCode}, {of(255, 255, 255, 255), api.ErrCode}, {of(128, 8, 0, 1), api.ErrCode},
		{of(opcode.Nop, 1, 0, 0), api.ErrForm}, {of(opcode.Halt, 0, 1, 0), api.ErrForm}, {of(opcode.Ret, 0, 0, 255), api.ErrForm}, {of(opcode.Mov, 1, 2, 3), api.ErrForm}, {of(opcode.Gbar, 0, 1, 9), api.ErrForm}, {of(opcode.Gskip, 0, 8, 8), api.ErrForm},
		{of(opcode.Mov, 8, 2, 3), api.ErrRange}, {of(opcode.Mov, 1, 8, 3), api.ErrRange}, {of(opcode.Set, 8, 0, 0), api.ErrRange}, {of(opcode.Jmp, 65, 0, 1), api.ErrRange}, {of(opcode.Jz, 0, 65, 0), api.ErrRange},
		{of(opcode.Send, 8, 0, 0), api.ErrRange}, {of(opcode.Sync, 8, 0, 0), api.ErrRange}, {of(opcode.Fall, 4, 0, 0), api.ErrRange}, {of(opcode.Spawn, 0, 8, 0), api.ErrRange},
		{of(opcode.Alt, 0, 3, 1), api.ErrRange}, {of(opcode.Alt, 0, 255, 1), api.ErrRange}, {of(opcode.Alt, 0, 2, 0), api.ErrRange}, {of(opcode.Alt, 0, 2, 7), api.ErrRange}, {of(opcode.Gin, 0, 0, 9), api.ErrRange}, {of(opcode.Gin, 0, 8, 8), api.ErrRange},
		{of(opcode.Fail, 0, 0, 0), api.ErrRange}, {of(opcode.Fail, 0, 1, 1), api.ErrRange}, {of(opcode.Fail, 1, 1, 0), api.ErrForm},
	} {
		texts(t, c.x, "", c.want)
	}
}

// P11.1: all numbers of an opcode, with bytes at the edges of all letters.
func TestTextEvery(t *testing.T) {
	picked := []uint8{0, 1, 2, 3, 4, 6, 7, 8, 9, 64, 65, 127, 128, 255}
	for op := range 256 {
		for _, a := range picked {
			for _, b := range picked {
				for _, c := range picked {
					x := of(uint8(op), a, b, c)
					if e := instr.Check(x); e != api.OK {
						texts(t, x, "", e)
					} else {
						texts(t, x, lineOf(x), api.OK)
					}
				}
			}
		}
	}
}

// P11.1, P11.2: a process may fault by each number but 0.
func TestFail(t *testing.T) {
	for n := 1; n <= 255; n++ {
		line := fmt.Sprint("fail ", n)
		texts(t, of(opcode.Fail, uint8(n), 0, 0), line, api.OK)
		parses(t, line, of(opcode.Fail, uint8(n), 0, 0), api.OK)
	}
	for _, n := range []string{"0", "256", "257", "511", "512", "65537", "4294967297", "18446744073709551617"} {
		refuses(t, "fail "+n, api.ErrRange)
	}
}

// P11.2: of each kind of word the last number that may be there, and the first that may not; such, too, as a byte would hold a fine number of.
func TestParseEdges(t *testing.T) {
	for _, c := range []struct {
		line string
		x    api.Instr
		err  api.Errno
	}{
		{"emit r7", of(opcode.Emit, 7, 0, 0), api.OK}, {"emit r8", api.Instr{}, api.ErrRange}, {"emit r0", of(opcode.Emit, 0, 0, 0), api.OK}, {"emit r256", api.Instr{}, api.ErrRange}, {"emit r257", api.Instr{}, api.ErrRange},
		{"mov r7 r7", of(opcode.Mov, 7, 7, 0), api.OK}, {"mov r8 r7", api.Instr{}, api.ErrRange}, {"mov r7 r8", api.Instr{}, api.ErrRange},
		{"add r7 r7 r7", of(opcode.Add, 7, 7, 7), api.OK}, {"add r7 r7 r8", api.Instr{}, api.ErrRange}, {"add r7 r7 r10", api.Instr{}, api.ErrRange},
		{"jmp @64", of(opcode.Jmp, 64, 0, 0), api.OK}, {"jmp @65", api.Instr{}, api.ErrRange}, {"jmp @0", of(opcode.Jmp, 0, 0, 0), api.OK}, {"jmp @320", api.Instr{}, api.ErrRange}, {"jmp @256", api.Instr{}, api.ErrRange},
		{"jnz r7 @64", of(opcode.Jnz, 7, 64, 0), api.OK}, {"jnz r7 @65", api.Instr{}, api.ErrRange}, {"call @64", of(opcode.Call, 64, 0, 0), api.OK}, {"jbad @65", api.Instr{}, api.ErrRange},
		{"send c7 r0", of(opcode.Send, 7, 0, 0), api.OK}, {"send c8 r0", api.Instr{}, api.ErrRange}, {"recv c256 r0", api.Instr{}, api.ErrRange},
		{"sync b7", of(opcode.Sync, 7, 0, 0), api.OK}, {"sync b8", api.Instr{}, api.ErrRange}, {"size r0 b7", of(opcode.Size, 0, 7, 0), api.OK}, {"size r0 b8", api.Instr{}, api.ErrRange},
		{"fall k3", of(opcode.Fall, 3, 0, 0), api.OK}, {"fall k4", api.Instr{}, api.ErrRange}, {"flush r0 k3", of(opcode.Flush, 0, 3, 0), api.OK}, {"flush r0 k4", api.Instr{}, api.ErrRange}, {"fall k7", api.Instr{}, api.ErrRange},
		{"spawn r0 p7 r0", of(opcode.Spawn, 0, 7, 0), api.OK}, {"spawn r0 p8 r0", api.Instr{}, api.ErrRange},
		{"alt r0 any 1", of(opcode.Alt, 0, 2, 1), api.OK}, {"alt r0 any 0", api.Instr{}, api.ErrRange}, {"alt r0 any 6", of(opcode.Alt, 0, 2, 6), api.OK}, {"alt r0 any 7", api.Instr{}, api.ErrRange}, {"alt r0 any 257", api.Instr{}, api.ErrRange},
		{"fail 0", api.Instr{}, api.ErrRange}, {"fail 1", of(opcode.Fail, 1, 0, 0), api.OK}, {"fail 255", of(opcode.Fail, 255, 0, 0), api.OK}, {"fail 256", api.Instr{}, api.ErrRange},
		{"set r7 -32768", set(7, -32768), api.OK}, {"set r7 -32769", api.Instr{}, api.ErrRange}, {"set r7 32767", set(7, 32767), api.OK}, {"set r7 32768", api.Instr{}, api.ErrRange}, {"set r7 65535", api.Instr{}, api.ErrRange}, {"set r7 65536", api.Instr{}, api.ErrRange}, {"set r7 -65536", api.Instr{}, api.ErrRange},
		{"set r7 2147483647", api.Instr{}, api.ErrRange}, {"set r7 2147483648", api.Instr{}, api.ErrRange}, {"set r7 -2147483648", api.Instr{}, api.ErrRange}, {"set r7 -2147483649", api.Instr{}, api.ErrRange}, {"set r8 0", api.Instr{}, api.ErrRange},
		{"gin c0 r0 if r7", of(opcode.Gin, 0, 0, 7), api.OK}, {"gin c0 r0 if r8", api.Instr{}, api.ErrRange}, {"gbar b0 if r8", api.Instr{}, api.ErrRange}, {"gtime r0 if r8", api.Instr{}, api.ErrRange}, {"gskip if r8", api.Instr{}, api.ErrRange}, {"gskip if r9", api.Instr{}, api.ErrRange}, {"gtime r8 if r0", api.Instr{}, api.ErrRange},
	} {
		parses(t, c.line, c.x, c.err)
	}
}

// P11.2: of the words of one number each number up to 400, and of set each one of 17 bits.
func TestParseEachNumber(t *testing.T) {
	for n := range 400 {
		for _, line := range []string{"now r%d", "sub r1 r%d r2", "sub r1 r2 r%d", "call @%d", "jz r1 @%d", "recv c%d r1", "enrol b%d", "phase r1 b%d", "fall k%d", "flush r1 k%d", "spawn r1 p%d r2", "alt r1 fair %d", "fail %d", "gskip if r%d", "gin c%d r1 if r2"} {
			parsesAnew(t, fmt.Sprintf(line, n))
		}
	}
	for n := -65540; n <= 65540; n++ {
		line := fmt.Sprint("set r1 ", n)
		if n < -32768 || n > 32767 {
			refuses(t, line, api.ErrRange)
		} else {
			parses(t, line, set(1, n), api.OK)
		}
	}
}

// P11.2: a line without words.
func TestParseEmpty(t *testing.T) {
	for _, line := range []string{"", " ", "  ", strings.Repeat(" ", 100000)} {
		refuses(t, line, api.ErrEmpty)
	}
}

// P11.2: a first word that is no opcode's name.
func TestParseNone(t *testing.T) {
	for _, line := range []string{"x", "NOP", "Nop", "nOP", "HALT", "Mov r1 r2", "mo r1 r2", "movr r1 r2", "movr1 r2", "nop.", "no p", "n op", "nopnop", "r1", "@1", "if", "pri", "0", "3", "47", "-", "-1", ";", "# nop", "//", "nop,", "mov,r1,r2", "set:", "\"nop\"", "n\u043ep", "\ufeffnop", "gin2", "nop\x00", "\x00nop", "\xffnop", "nop\xff", strings.Repeat("nop", 50000)} {
		refuses(t, line, api.ErrNone)
	}
	for _, l := range table {
		refuses(t, strings.ToUpper(l.name), api.ErrNone)
		refuses(t, strings.ToUpper(l.name[:1])+l.name[1:]+" r1 r1", api.ErrNone)
		refuses(t, l.name+"s", api.ErrNone)
		refuses(t, l.name+"\t", api.ErrNone)
	}
}

// P11.2: more than one blank, and blanks ahead and behind, tell nothing.
func TestParseBlanks(t *testing.T) {
	for _, x := range some() {
		words := strings.Split(lineOf(x), " ")
		for _, gap := range []string{" ", "  ", "     ", strings.Repeat(" ", 3000)} {
			line := strings.Join(words, gap)
			for _, s := range []string{line, gap + line, line + gap, gap + line + gap} {
				parses(t, s, x, api.OK)
			}
		}
	}
	parses(t, "  gin  c0   r1 if    r2  ", of(opcode.Gin, 0, 1, 2), api.OK)
	refuses(t, "movr1r2", api.ErrNone)
	refuses(t, "mov r1r2", api.ErrForm)
	refuses(t, "gskip ifr1", api.ErrForm)
	refuses(t, "mov r 1 r2", api.ErrForm)
	refuses(t, "jmp @ 1", api.ErrForm)
	refuses(t, "set r1 - 2", api.ErrForm)
}

// P11.2: the byte 32 alone is a blank: each other one belongs to the word that it stands in.
func TestParseNoBlank(t *testing.T) {
	for k := range 256 {
		b := string([]byte{byte(k)})
		for _, line := range []string{b + "nop", "nop" + b, b, "mov" + b + "r1 r2", "mov r1" + b + "r2", "mov r1 r2" + b, "mov r1 " + b + "r2", "mov " + b + " r1 r2", "nop " + b, "set r1 5" + b, "set r1 " + b + "5", "set r1 1" + b + "5", "fail " + b + "5", "fail 5" + b, "alt r1 pri" + b + " 2", "gskip" + b + "if r1", "gskip if" + b + "r1", "gskip " + b, "jmp @" + b + "1", "jmp " + b + "1", "emit " + b + "1"} {
			parsesAnew(t, line)
		}
	}
	for _, blank := range []string{"\t", "\n", "\v", "\f", "\r", "\x00", "\x1f", "\u0085", "\u00a0", "\u1680", "\u2003", "\u2028", "\u202f", "\u3000", "\ufeff", "\x85", "\xa0"} {
		refuses(t, blank, api.ErrNone)
		refuses(t, blank+"nop", api.ErrNone)
		refuses(t, "nop"+blank, api.ErrNone)
		refuses(t, "nop "+blank, api.ErrMany)
		refuses(t, "mov"+blank+"r1"+blank+"r2", api.ErrNone)
		refuses(t, "mov r1"+blank+"r2", api.ErrForm)
		refuses(t, "mov r1 r2"+blank, api.ErrForm)
		refuses(t, "mov "+blank+"r1 r2", api.ErrForm)
		refuses(t, "mov r1 r2 "+blank, api.ErrMany)
		refuses(t, "set r1 5"+blank, api.ErrForm)
		refuses(t, "gskip "+blank, api.ErrForm)
		refuses(t, "gskip if"+blank+"r1", api.ErrForm)
		refuses(t, "alt r1 pri"+blank+" 2", api.ErrForm)
	}
}

// P11.2: of each opcode's line each word missing, from the last one on: none is missing of a guard but behind if.
func TestParseEnd(t *testing.T) {
	for _, x := range some() {
		words := strings.Split(lineOf(x), " ")
		for n := 1; n < len(words); n++ {
			line := strings.Join(words[:n], " ")
			switch {
			case words[n] == "if":
				parses(t, line, of(x.Op, x.A, x.B, 8), api.OK)
			default:
				refuses(t, line, api.ErrEnd)
				refuses(t, line+"  ", api.ErrEnd)
			}
		}
	}
	for _, line := range []string{"mov", "mov r1", "set", "set r1", "add r1 r2", "jz", "jz r1", "jmp", "fail", "alt", "alt r1", "alt r1 pri", "spawn r1 p1", "gin", "gin c1", "gin c1 r1 if", "gbar", "gbar b1 if", "gtime", "gtime r1 if", "gskip if", "fall", "flush r1"} {
		refuses(t, line, api.ErrEnd)
	}
}

// P11.2: a word too many, be it one of another byte, a name, or anything else.
func TestParseMany(t *testing.T) {
	for _, x := range some() {
		line := lineOf(x)
		if table[x.Op].form[2] == 'g' && x.C == 8 {
			refuses(t, line+" r1", api.ErrForm)
			continue
		}
		for _, w := range []string{"0", "r1", "if", "if r1", "nop", "-", "x", "\t", "\x00", ";", line, strings.Repeat("y ", 5000)} {
			refuses(t, line+" "+w, api.ErrMany)
		}
	}
	refuses(t, "nop nop", api.ErrMany)
	refuses(t, "nop -", api.ErrMany)
	refuses(t, "ret 0 0 0", api.ErrMany)
	refuses(t, "mov r1 r2 0", api.ErrMany)
	refuses(t, "sync b1 if r1", api.ErrMany)
	refuses(t, "gskip if r1 r2", api.ErrMany)
	refuses(t, "gskip if r1 if r2", api.ErrMany)
}

// P11.2: behind a guard's bytes just `if` and a register may stand.
func TestParseIf(t *testing.T) {
	for _, head := range []string{"gin c1 r1", "gbar b1", "gtime r1", "gskip"} {
		for _, w := range []string{"r1", "If", "IF", "i", "iff", "if1", "ifr1", "-", "8", "r8", "unless r1", "0", "nop", "if\t", "\u0456f"} {
			refuses(t, head+" "+w, api.ErrForm)
			refuses(t, head+" "+w+" r1", api.ErrForm)
		}
		for _, w := range []string{"if", "1", "c1", "R1", "r", "r01", "r-1", "r+1", "-", "none", "@1"} {
			refuses(t, head+" if "+w, api.ErrForm)
			refuses(t, head+" if "+w+" r1", api.ErrForm)
		}
		for _, w := range []string{"r8", "r9", "r10", "r255", "r256", "r264", "r4294967296"} {
			refuses(t, head+" if "+w, api.ErrRange)
			refuses(t, head+" if "+w+" r1", api.ErrRange)
		}
		refuses(t, head+" if", api.ErrEnd)
		refuses(t, head+" if if r1", api.ErrForm)
	}
}

// strange are words that are none of a byte told by a letter and digits, put behind the letter: no digits, noughts and signs ahead, other signs and letters, bytes that are no text.
var strange = []string{"", "00", "01", "007", "0000000000000000000000000", "-", "+", "-0", "+0", "-1", "+1", "--1", "1-", "1+", "x", "1x", "x1", "0x1", "1e0", "1.0", "1.", ".1", "1_0", "1,", "_1", "'1'", "\u0661", "\uff11", "\u00b2", "1\u0301", "1\x00", "\x001", "\xff", "1\xff", "1\t", "\t1", "\r1"}

// P11.2: words that are none of their kind: of each opcode each of its words, with another letter, without one, and with no plain digits behind it.
func TestParseForm(t *testing.T) {
	for _, x := range some() {
		words := strings.Split(lineOf(x), " ")
		for i, w := range words {
			if i == 0 || w == "if" || w == "pri" || strings.IndexByte("r@cbkp", w[0]) < 0 {
				continue
			}
			for _, letter := range []string{"r", "@", "c", "b", "k", "p", "R", "C", "B", "K", "P", "", "t", "i", "g", "q", "$", "#", "rr", "\x00", "\u0433"} {
				if letter != w[:1] {
					put(t, words, i, letter+w[1:], api.ErrForm)
				}
			}
			for _, digits := range strange {
				put(t, words, i, w[:1]+digits, api.ErrForm)
			}
			put(t, words, i, "pri", api.ErrForm)
			put(t, words, i, "if", api.ErrForm)
		}
	}
}

// P11.2: numbers that stand without a letter, and the ways of choosing.
func TestParseFormOthers(t *testing.T) {
	for _, digits := range append([]string{"r1", "@1", "c1", "pri", "if"}, strange...) {
		if digits == "" {
			continue
		}
		refuses(t, "fail "+digits, api.ErrForm)
		refuses(t, "alt r1 pri "+digits, api.ErrForm)
		if digits != "-1" {
			refuses(t, "set r1 "+digits, api.ErrForm)
		}
	}
	parses(t, "set r1 -1", set(1, -1), api.OK)
	for _, w := range []string{"-00", "-01", "-0", "+1", "+0", "--1", "-+1", "-32768x", "-x", "0x10", "- 1"} {
		refuses(t, "set r1 "+w, api.ErrForm)
	}
	for _, w := range []string{"Pri", "PRI", "prio", "pr", "p", "0", "1", "2", "3", "fairly", "fai", "anyone", "an", "if", "r1", "pri,", "pri\t", "pri\x00", "-", "n", "2 pri"} {
		refuses(t, "alt r1 "+w+" 2", api.ErrForm)
		refuses(t, "alt r1 "+w, api.ErrForm)
	}
	refuses(t, "alt r1 2 pri", api.ErrForm)
	refuses(t, "alt pri r1 2", api.ErrForm)
}

// P11.2: numbers of very many digits may not be there, whatever their last ones are; with a nought ahead, or another sign among them, they are none.
func TestParseLong(t *testing.T) {
	for _, many := range []int{3, 5, 9, 10, 11, 19, 20, 21, 40, 309, 1000, 100000} {
		for _, digits := range []string{"9" + strings.Repeat("0", many), strings.Repeat("9", many+1), "8" + strings.Repeat("0", many-1) + "1", new(big.Int).Lsh(big.NewInt(1), uint(4*many+3)).String()} {
			for _, head := range []string{"emit r", "jmp @", "send c", "sync b", "fall k", "spawn r1 p", "fail ", "alt r1 any ", "gskip if r"} {
				refuses(t, head+digits, api.ErrRange)
				refuses(t, head+"0"+digits, api.ErrForm)
				refuses(t, head+"-"+digits, api.ErrForm)
				refuses(t, head+digits+"x", api.ErrForm)
			}
			if len(digits) > 5 {
				refuses(t, "set r1 "+digits, api.ErrRange)
				refuses(t, "set r1 -"+digits, api.ErrRange)
			}
			refuses(t, "set r1 0"+digits, api.ErrForm)
			refuses(t, "set r1 -0"+digits, api.ErrForm)
			refuses(t, "set r1 "+digits+"x", api.ErrForm)
		}
	}
}

// P11.2: where more than one thing is wrong: the words and the name first, then byte by byte, and a word too many last.
func TestParseOrder(t *testing.T) {
	for _, c := range []struct {
		line string
		want api.Errno
	}{
		{"x r9 y", api.ErrNone}, {"Mov", api.ErrNone}, {"mov2 r1 r2 r3 r4", api.ErrNone},
		{"mov r8 x", api.ErrRange}, {"mov x r8", api.ErrForm}, {"mov r8", api.ErrRange}, {"mov x", api.ErrForm}, {"mov r1 x", api.ErrForm}, {"mov r1", api.ErrEnd},
		{"mov r8 r2 r3", api.ErrRange}, {"mov r1 r8 r3", api.ErrRange}, {"mov r1 x r3", api.ErrForm}, {"mov r1 r2 r3", api.ErrMany}, {"mov r1 r2 r9 x", api.ErrMany},
		{"add r8 x", api.ErrRange}, {"add r1 x r8", api.ErrForm}, {"add r1 r8 x", api.ErrRange}, {"add x r8", api.ErrForm}, {"add r1 r2", api.ErrEnd}, {"add r1 r8", api.ErrRange}, {"add r1 r2 x y", api.ErrForm}, {"add r1 r2 r8 y", api.ErrRange},
		{"set r8 x", api.ErrRange}, {"set x 32768", api.ErrForm}, {"set r1 32768 x", api.ErrRange}, {"set r1 x 32768", api.ErrForm}, {"set r8", api.ErrRange}, {"set r1 2 3", api.ErrMany}, {"set r1 0 5", api.ErrMany},
		{"jz r8 65", api.ErrRange}, {"jz 1 @65", api.ErrForm}, {"jz r1 @65 x", api.ErrRange}, {"jz @1 r1", api.ErrForm}, {"jmp @65 @1", api.ErrRange}, {"jmp @1 @65", api.ErrMany},
		{"alt r8 x 7", api.ErrRange}, {"alt r1 x 7", api.ErrForm}, {"alt r1 pri 7", api.ErrRange}, {"alt r1 pri 7 x", api.ErrRange}, {"alt r1 pri x y", api.ErrForm}, {"alt r1 x", api.ErrForm}, {"alt r8", api.ErrRange}, {"alt r1 pri 2 3", api.ErrMany},
		{"spawn r8 p8", api.ErrRange}, {"spawn r1 r1 r8", api.ErrForm}, {"spawn r1 p8 1", api.ErrRange}, {"spawn r1 p1 1", api.ErrForm},
		{"gin c8 x", api.ErrRange}, {"gin c1 x if", api.ErrForm}, {"gin c1 r8 x", api.ErrRange}, {"gin c1 r1 x", api.ErrForm}, {"gin c1 r1 if x", api.ErrForm}, {"gin c1 r1 if r8 x", api.ErrRange}, {"gin c1 r1 if r1 x", api.ErrMany}, {"gin c1", api.ErrEnd}, {"gin c1 if r1", api.ErrForm},
		{"gbar b8 x", api.ErrRange}, {"gbar x x", api.ErrForm}, {"gbar if r1", api.ErrForm}, {"gtime if r1", api.ErrForm}, {"gtime r8 if", api.ErrRange}, {"gskip x if", api.ErrForm},
		{"fail 0 x", api.ErrRange}, {"fail x 0", api.ErrForm}, {"fail 256 1", api.ErrRange}, {"fail 1 256", api.ErrMany}, {"send r1 c1", api.ErrForm}, {"send c8 c1", api.ErrRange}, {"flush k1 r1", api.ErrForm}, {"flush r1 k4 x", api.ErrRange},
	} {
		refuses(t, c.line, c.want)
	}
}

// P11.2: lines of words by chance, fine and wrong ones mixed.
func TestParseChance(t *testing.T) {
	r := rand.New(rand.NewSource(112))
	odd := []string{"if", "if", "if", "pri", "fair", "any", "0", "1", "5", "6", "7", "255", "256", "-1", "-0", "-32768", "-32769", "32767", "32768", "r", "r0", "r1", "r7", "r8", "r01", "r-1", "@0", "@64", "@65", "c0", "c7", "c8", "b0", "b7", "b8", "k0", "k3", "k4", "p0", "p7", "p8", "nop", "set", "x", "\t", "\xff", "R1"}
	fine := func(letter byte) string {
		l := limits[letter]
		return strings.TrimSpace(told(letter, uint8(l[0]+r.Intn(l[1]-l[0]+1))))
	}
	for range 200000 {
		l := table[r.Intn(len(table))]
		words := []string{l.name}
		for _, letter := range []byte(l.form) {
			switch {
			case r.Intn(8) == 0:
				words = append(words, odd[r.Intn(len(odd))])
			case letter == 'i':
				words = append(words, fmt.Sprint(r.Intn(66000)-33000))
			case r.Intn(30) != 0:
				words = append(words, fine(letter))
			}
		}
		for r.Intn(15) == 0 {
			words = append(words, odd[r.Intn(len(odd))])
		}
		parsesAnew(t, strings.Repeat(" ", r.Intn(8)/6)+strings.Join(words, strings.Repeat(" ", 1+r.Intn(8)/7))+strings.Repeat(" ", r.Intn(8)/6))
	}
}

// P11.2: lines that are an instruction's but for one byte that is another one, is put in, or is taken away.
func TestParseBeside(t *testing.T) {
	bytes := "\x00\t\n !#+-.0123456789@_abcfiknprtx~\x80\xff"
	for _, x := range some() {
		line := lineOf(x)
		for i := range len(line) + 1 {
			if i < len(line) {
				parsesAnew(t, line[:i]+line[i+1:])
			}
			for k := range len(bytes) {
				parsesAnew(t, line[:i]+bytes[k:k+1]+line[i:])
				if i < len(line) {
					parsesAnew(t, line[:i]+bytes[k:k+1]+line[i+1:])
				}
			}
		}
	}
}

// P11.3: what is printed has a byte 10 behind each line, and nothing else.
func TestPrint(t *testing.T) {
	prints(t, nil, "", api.OK)
	prints(t, []api.Instr{}, "", api.OK)
	prints(t, []api.Instr{{}}, "nop\n", api.OK)
	prints(t, []api.Instr{{}, {}, {}}, "nop\nnop\nnop\n", api.OK)
	prints(t, []api.Instr{of(opcode.Set, 2, 255, 254), of(opcode.Alt, 0, 0, 2), of(opcode.Gin, 0, 1, 8), of(opcode.Gskip, 0, 0, 0), of(opcode.Halt, 0, 0, 0)}, "set r2 -2\nalt r0 pri 2\ngin c0 r1\ngskip if r0\nhalt\n", api.OK)
	var all strings.Builder
	var list []api.Instr
	for op := range table {
		for _, x := range taken(uint8(op)) {
			list = append(list, x)
			all.WriteString(lineOf(x) + "\n")
		}
	}
	prints(t, list, all.String(), api.OK)
}

// P11.3: a wrong instruction at the head, in the middle and at the end, and the first of two with unlike errors.
func TestPrintErrors(t *testing.T) {
	fine, code, form, rang := of(opcode.Mov, 1, 2, 0), of(48, 0, 0, 0), of(opcode.Nop, 0, 1, 0), of(opcode.Fail, 0, 0, 0)
	for _, c := range []struct {
		l    []api.Instr
		want api.Errno
	}{
		{[]api.Instr{code}, api.ErrCode}, {[]api.Instr{form}, api.ErrForm}, {[]api.Instr{rang}, api.ErrRange},
		{[]api.Instr{code, fine, fine}, api.ErrCode}, {[]api.Instr{fine, form, fine}, api.ErrForm}, {[]api.Instr{fine, fine, rang}, api.ErrRange},
		{[]api.Instr{code, form}, api.ErrCode}, {[]api.Instr{form, code}, api.ErrForm}, {[]api.Instr{rang, fine, form}, api.ErrRange}, {[]api.Instr{fine, form, rang}, api.ErrForm}, {[]api.Instr{fine, rang, fine, code, fine}, api.ErrRange}, {[]api.Instr{fine, code, fine, fine, rang}, api.ErrCode},
	} {
		prints(t, c.l, "", c.want)
	}
	long := slices.Repeat([]api.Instr{fine}, 5000)
	prints(t, append(long, form, rang), "", api.ErrForm)
}

// P11.3: the list that is handed in stays as it is.
func TestPrintKeeps(t *testing.T) {
	l := []api.Instr{of(opcode.Mov, 1, 2, 0), of(opcode.Halt, 0, 0, 0), of(99, 1, 2, 3), of(opcode.Ret, 0, 0, 0)}
	was := slices.Clone(l)
	Print(l[:2])
	Print(l)
	if !slices.Equal(l, was) {
		t.Errorf("%v; was %v", l, was)
	}
}

// P11.3: lines without words are left away, wherever they stand, and a byte 10 at the end may be missing.
func TestRead(t *testing.T) {
	nop, halt, ret := of(opcode.Nop, 0, 0, 0), of(opcode.Halt, 0, 0, 0), of(opcode.Ret, 0, 0, 0)
	for _, c := range []struct {
		s    string
		want []api.Instr
	}{
		{"", nil}, {"\n", nil}, {"\n\n\n", nil}, {" ", nil}, {"  \n \n   ", nil}, {strings.Repeat(" \n", 5000), nil},
		{"nop", []api.Instr{nop}}, {"nop\n", []api.Instr{nop}}, {"\nnop", []api.Instr{nop}}, {"\n\n  nop  \n\n", []api.Instr{nop}}, {" \n \nnop\n ", []api.Instr{nop}},
		{"nop\nhalt", []api.Instr{nop, halt}}, {"nop\nhalt\n", []api.Instr{nop, halt}}, {"nop\n\nhalt", []api.Instr{nop, halt}}, {"nop\n   \n\n halt\n  ", []api.Instr{nop, halt}}, {"halt\nnop\nret\nnop", []api.Instr{halt, nop, ret, nop}},
		{"gin c0 r1 if r2\nset r2 -2\nalt r0 pri 2\njz r1 @7\n", []api.Instr{of(opcode.Gin, 0, 1, 2), set(2, -2), of(opcode.Alt, 0, 0, 2), of(opcode.Jz, 1, 7, 0)}},
		{"gskip\n\ngskip if r1\n", []api.Instr{of(opcode.Gskip, 0, 0, 8), of(opcode.Gskip, 0, 0, 1)}},
	} {
		reads(t, c.s, c.want, 0, api.OK)
	}
}

// P11.3: the first error, and its line, lines without words counted; no instruction beside it.
func TestReadErrors(t *testing.T) {
	for _, c := range []struct {
		s    string
		line int
		want api.Errno
	}{
		{"x", 1, api.ErrNone}, {"x\n", 1, api.ErrNone}, {"\nx", 2, api.ErrNone}, {"\n \n\nx\n\n", 4, api.ErrNone}, {"nop\nx", 2, api.ErrNone}, {"nop\n\nhalt\n\n x", 5, api.ErrNone},
		{"mov r1", 1, api.ErrEnd}, {"nop\nmov r1\nnop", 2, api.ErrEnd}, {"mov r1\nr2", 1, api.ErrEnd}, {"mov\nr1 r2", 1, api.ErrEnd}, {"gskip if\nr1", 1, api.ErrEnd}, {"gskip\nif r1", 2, api.ErrNone},
		{"nop\nnop\nmov 1 2", 3, api.ErrForm}, {"nop nop", 1, api.ErrMany}, {"nop\nhalt nop\nnop", 2, api.ErrMany}, {"emit r7\nemit r8\nemit r7", 2, api.ErrRange},
		{"x\nmov r8 r1", 1, api.ErrNone}, {"mov r8 r1\nx", 1, api.ErrRange}, {"nop\nnop x\nmov\nx", 2, api.ErrMany}, {"\nmov\nx\n", 2, api.ErrEnd}, {"nop\nemit 1\nemit r8", 2, api.ErrForm}, {"nop\nemit r8\nemit 1", 2, api.ErrRange},
		{"nop\r\nhalt\r\n", 1, api.ErrNone}, {"nop\n\r\nhalt", 2, api.ErrNone}, {"nop\n\t\nhalt", 2, api.ErrNone}, {"emit r1\r\n", 1, api.ErrForm}, {"nop\r", 1, api.ErrNone}, {"nop\x00", 1, api.ErrNone}, {"nop\n\xff\xfe", 2, api.ErrNone}, {"nop;halt", 1, api.ErrNone}, {"nop\u2028halt", 1, api.ErrNone}, {"nop\n# a word", 2, api.ErrNone}, {"\x0b\x0c", 1, api.ErrNone},
		{strings.Repeat("nop\n", 5000) + "x\n" + strings.Repeat("nop\n", 50), 5001, api.ErrNone}, {strings.Repeat("\n", 70000) + "x", 70001, api.ErrNone},
	} {
		reads(t, c.s, nil, c.line, c.want)
	}
}

// P11.3: of texts with one wrong line, at each place, its number is told.
func TestReadEachLine(t *testing.T) {
	for many := 1; many <= 20; many++ {
		for at := range many {
			lines := slices.Repeat([]string{"add r1 r2 r3"}, many)
			lines[at] = "add r1 r2"
			for i := range at {
				lines[i] = []string{"", " ", "halt"}[(i+many)%3]
			}
			reads(t, strings.Join(lines, "\n"), nil, at+1, api.ErrEnd)
			reads(t, strings.Join(lines, "\n")+"\nx", nil, at+1, api.ErrEnd)
		}
	}
}

// P11.3: lines by chance, most of them fine, some without words, few wrong.
func TestReadChance(t *testing.T) {
	r := rand.New(rand.NewSource(113))
	fine := some()
	wrong := []string{"x", "mov r1", "mov r8 r1", "mov 1 2", "nop nop", "nop\t", "\r", "gskip if", "set r1 99999"}
	for range 30000 {
		var lines []string
		for range r.Intn(12) {
			switch n := r.Intn(40); {
			case n == 0:
				lines = append(lines, wrong[r.Intn(len(wrong))])
			case n < 6:
				lines = append(lines, strings.Repeat(" ", r.Intn(3)))
			default:
				lines = append(lines, strings.Repeat(" ", r.Intn(2))+lineOf(fine[r.Intn(len(fine))])+strings.Repeat(" ", r.Intn(2)))
			}
		}
		readsAnew(t, strings.Join(lines, "\n"))
	}
}

// P11.3: texts of bytes by chance.
func TestReadBytes(t *testing.T) {
	r := rand.New(rand.NewSource(114))
	signs := "nophalt rgskifemjc@b01278-\n\n\n   \t\x00\xff"
	for range 100000 {
		text := make([]byte, r.Intn(14))
		for i := range text {
			text[i] = signs[r.Intn(len(signs))]
		}
		readsAnew(t, string(text))
	}
}

// P11.3: what Read answers is the caller's own.
func TestReadOwn(t *testing.T) {
	s := "mov r1 r2\nhalt\n"
	want := []api.Instr{of(opcode.Mov, 1, 2, 0), of(opcode.Halt, 0, 0, 0)}
	got, _, _ := Read(s)
	clear(got)
	_ = append(got[:0], of(9, 9, 9, 9), of(8, 8, 8, 8))
	reads(t, s, want, 0, api.OK)
}

// P11.4: each instruction that may be comes back from its line, and the line from it, but for blanks.
func TestBack(t *testing.T) {
	for op := range table {
		for _, x := range taken(uint8(op)) {
			line, e := Text(x)
			if e != api.OK {
				t.Fatalf("Text(%v): %d", x, e)
			}
			parses(t, line, x, api.OK)
			parses(t, "  "+strings.ReplaceAll(line, " ", "   ")+" ", x, api.OK)
		}
	}
	for n := -32768; n <= 32767; n++ {
		line, e := Text(set(6, n))
		if want := fmt.Sprint("set r6 ", n); line != want || e != api.OK {
			t.Errorf("Text: %q, %d; want %q", line, e, want)
		}
		parses(t, line, set(6, n), api.OK)
	}
}

// P11.4: no two instructions have one line.
func TestBackOne(t *testing.T) {
	seen := map[string]api.Instr{}
	for op := range table {
		for _, x := range taken(uint8(op)) {
			line, _ := Text(x)
			if was, is := seen[line]; is {
				t.Errorf("%q: %v and %v", line, was, x)
			}
			seen[line] = x
		}
	}
}

// P11.4: each line that is taken, of such as differ from an instruction's by a few bytes, comes back from its instruction but for blanks.
func TestBackLine(t *testing.T) {
	r := rand.New(rand.NewSource(115))
	fine := some()
	signs := " 0123456789r@cbkp-if"
	many := 0
	for range 200000 {
		text := []byte(lineOf(fine[r.Intn(len(fine))]))
		for range 1 + r.Intn(3) {
			text[r.Intn(len(text))] = signs[r.Intn(len(signs))]
		}
		x, e := Parse(string(text))
		if e != api.OK {
			continue
		}
		many++
		texts(t, x, strings.Join(wordsIn(string(text)), " "), api.OK)
	}
	if many < 1000 {
		t.Errorf("just %d lines were taken", many)
	}
}

// P11.4: instructions come back from what they are printed as, with empty lines in between too.
func TestBackAll(t *testing.T) {
	r := rand.New(rand.NewSource(116))
	fine := some()
	for range 3000 {
		var list []api.Instr
		for range r.Intn(80) {
			list = append(list, fine[r.Intn(len(fine))])
		}
		s, e := Print(list)
		if e != api.OK {
			t.Fatalf("Print(%v): %d", list, e)
		}
		reads(t, s, list, 0, api.OK)
		reads(t, strings.TrimSuffix(s, "\n"), list, 0, api.OK)
		reads(t, "\n"+strings.ReplaceAll(s, "\n", " \n\n  \n "), list, 0, api.OK)
	}
}
