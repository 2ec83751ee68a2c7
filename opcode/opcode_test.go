package opcode

import (
	"math"
	"slices"
	"strings"
	"testing"
)

// count is how many opcodes the chapter's table tells.
const count = 48

// table is the chapter's table, and ahead of each line the constant of that name.
var table = []struct {
	op, number int
	name, form string
	class      int
}{
	{Nop, 0, "nop", "---", 0},
	{Halt, 1, "halt", "---", 5},
	{Mov, 2, "mov", "rr-", 0},
	{Set, 3, "set", "rij", 0},
	{Add, 4, "add", "rrr", 0},
	{Sub, 5, "sub", "rrr", 0},
	{Mul, 6, "mul", "rrr", 0},
	{Div, 7, "div", "rrr", 0},
	{Rem, 8, "rem", "rrr", 0},
	{And, 9, "and", "rrr", 0},
	{Or, 10, "or", "rrr", 0},
	{Xor, 11, "xor", "rrr", 0},
	{Shl, 12, "shl", "rrr", 0},
	{Shr, 13, "shr", "rrr", 0},
	{Not, 14, "not", "rr-", 0},
	{Neg, 15, "neg", "rr-", 0},
	{Lt, 16, "lt", "rrr", 0},
	{Eq, 17, "eq", "rrr", 0},
	{Jmp, 18, "jmp", "t--", 1},
	{Jz, 19, "jz", "rt-", 1},
	{Jnz, 20, "jnz", "rt-", 1},
	{Jbad, 21, "jbad", "t--", 1},
	{Call, 22, "call", "t--", 1},
	{Ret, 23, "ret", "---", 1},
	{Load, 24, "load", "rr-", 0},
	{Store, 25, "store", "rr-", 0},
	{Fail, 26, "fail", "s--", 5},
	{Emit, 27, "emit", "r--", 4},
	{Now, 28, "now", "r--", 4},
	{Me, 29, "me", "r--", 4},
	{Spawn, 30, "spawn", "rpr", 4},
	{Join, 31, "join", "r--", 2},
	{Sleep, 32, "sleep", "r--", 2},
	{Send, 33, "send", "cr-", 2},
	{Recv, 34, "recv", "cr-", 2},
	{Poison, 35, "poison", "cr-", 4},
	{Enrol, 36, "enrol", "b--", 4},
	{Resign, 37, "resign", "b--", 4},
	{Sync, 38, "sync", "b--", 2},
	{Fall, 39, "fall", "k--", 2},
	{Flush, 40, "flush", "rk-", 4},
	{Alt, 41, "alt", "rmn", 2},
	{Gin, 42, "gin", "crg", 3},
	{Gbar, 43, "gbar", "b-g", 3},
	{Gtime, 44, "gtime", "r-g", 3},
	{Gskip, 45, "gskip", "--g", 3},
	{Phase, 46, "phase", "rb-", 4},
	{Size, 47, "size", "rb-", 4},
}

// edges are numbers that are none of the table's: beside its ends, far off, and the ends of int and of smaller types.
var edges = []int{
	math.MinInt, math.MinInt + 1, math.MinInt + 41, -1 << 62, -1 << 40, math.MinInt32 - 1, math.MinInt32, math.MinInt32 + 1, -65536, -32769, -32768, -256, -129, -128, -100, -49, -48, -47, -41, -2, -1,
	48, 49, 50, 63, 64, 100, 127, 128, 255, 256, 4096, 32767, 32768, 65535, 65536, math.MaxInt32 - 1, math.MaxInt32, math.MaxInt32 + 1, math.MaxUint32, 1 << 40, 1 << 62, math.MaxInt - 41, math.MaxInt - 1, math.MaxInt,
}

// alike are numbers that are none of the table's, but those of one of its lines again, when they are cut to fewer bits, or when their sign, or all their bits, are turned.
func alike() []int {
	var out []int
	for op := range count {
		if op > 0 {
			out = append(out, -op)
		}
		out = append(out, ^op, op-count, op+count)
		for bits := 6; bits < 63; bits++ {
			out = append(out, op+1<<bits, op-1<<bits, -op-1<<bits)
		}
		out = append(out, math.MinInt+op, math.MaxInt-op)
	}
	return out
}

// told fails, unless Name, Form and Class answer so.
func told(t *testing.T, op int, name, form string, class int) {
	t.Helper()
	if got := Name(op); got != name {
		t.Errorf("Name(%d): %q; want %q", op, got, name)
	}
	if got := Form(op); got != form {
		t.Errorf("Form(%d): %q; want %q", op, got, form)
	}
	if got := Class(op); got != class {
		t.Errorf("Class(%d): %d; want %d", op, got, class)
	}
}

// none fails, unless a number is told to be no opcode.
func none(t *testing.T, op int) {
	t.Helper()
	told(t, op, "", "", -1)
}

// found fails, unless Find answers so.
func found(t *testing.T, name string, want int, is bool) {
	t.Helper()
	if got, ok := Find(name); got != want || ok != is {
		t.Errorf("Find(%.40q of %d): %d, %v; want %d, %v", name, len(name), got, ok, want, is)
	}
}

// numbers are the table's names, and which opcode each of them tells.
func numbers() map[string]int {
	out := map[string]int{}
	for _, c := range table {
		out[c.name] = c.number
	}
	return out
}

// sought fails, unless Find answers what the table tells of a text, be it a name or not.
func sought(t *testing.T, known map[string]int, text string) {
	t.Helper()
	op, is := known[text]
	found(t, text, op, is)
}

// The chapter's example.
func TestExamples(t *testing.T) {
	told(t, 41, "alt", "rmn", 2)
}

// Each constant is the table's number; Many is how many lines it has.
func TestConstants(t *testing.T) {
	if Many != count || len(table) != count {
		t.Fatalf("Many: %d, and %d lines; want %d", Many, len(table), count)
	}
	for i, c := range table {
		if c.op != c.number || c.number != i {
			t.Errorf("%s: the constant is %d; want %d, at line %d", c.name, c.op, c.number, i)
		}
	}
	const small uint8 = Many // the constants are of no type, as the chapter has them: an instruction's byte is held against them
	if small != 48 {
		t.Error(small)
	}
}

// P9.1: each line of the table.
func TestTable(t *testing.T) {
	for _, c := range table {
		told(t, c.number, c.name, c.form, c.class)
		told(t, c.op, c.name, c.form, c.class)
	}
}

// P9.1: the first line and the last one, and what lies just beside them.
func TestEnds(t *testing.T) {
	none(t, -1)
	told(t, 0, "nop", "---", 0)
	told(t, 47, "size", "rb-", 4)
	none(t, 48)
	none(t, Many)
}

// P9.1: numbers that are no opcodes.
func TestNone(t *testing.T) {
	for _, op := range edges {
		none(t, op)
	}
	for _, op := range alike() {
		if op < 0 || op >= count {
			none(t, op)
		}
	}
	for op := -70000; op < 0; op++ {
		none(t, op)
	}
	for op := count; op <= 70000; op++ {
		none(t, op)
	}
}

// P9.1: what is told of an opcode is the same each time, whatever else was asked.
func TestAgain(t *testing.T) {
	for range 3 {
		for _, c := range slices.Backward(table) {
			none(t, c.number+count)
			found(t, c.form, 0, false)
			found(t, c.name, c.number, true)
			told(t, c.number, c.name, c.form, c.class)
		}
	}
}

// P9.2: each name is found, and leads back.
func TestFind(t *testing.T) {
	for _, c := range table {
		found(t, c.name, c.number, true)
		found(t, Name(c.number), c.number, true)
		found(t, string([]byte(c.name)), c.op, true) // by its letters, not by where they lie
		if op, _ := Find(c.name); Name(op) != c.name {
			t.Errorf("Find(%q): %d, whose name is %q", c.name, op, Name(op))
		}
	}
}

// P9.2: an empty text is no name, though numbers that are no opcodes have it for one.
func TestFindEmpty(t *testing.T) {
	found(t, "", 0, false)
	for _, op := range edges {
		found(t, Name(op), 0, false)
	}
}

// P9.2: a name with capitals, with blanks, with something else beside it, and twice.
func TestFindBeside(t *testing.T) {
	for _, c := range table {
		n := c.name
		for i := range n {
			found(t, n[:i]+strings.ToUpper(n[i:i+1])+n[i+1:], 0, false)
			found(t, n[:i]+" "+n[i:], 0, false)
		}
		for _, s := range []string{strings.ToUpper(n), " " + n, n + " ", " " + n + " ", "  " + n, "\t" + n, n + "\t", n + "\n", n + "\r\n", "\n" + n, "\ufeff" + n, n + "\u00a0", "\x00" + n, n + "\x00", n + "\x00nop", n + "s", n + "0", n + "1", n + ",", n + ".", n + "-", "-" + n, "." + n, "_" + n, n + n, n + " " + n, n + " r0", n + " " + c.form, n + c.form, c.form + n, "(" + n + ")", "`" + n + "`", "\"" + n + "\""} {
			found(t, s, 0, false)
		}
	}
}

// P9.2: parts of names, and names one behind the other, are found just where they are names themselves.
func TestFindParts(t *testing.T) {
	known := numbers()
	for _, c := range table {
		for i := range len(c.name) + 1 {
			for k := i; k <= len(c.name); k++ {
				sought(t, known, c.name[i:k])
			}
		}
		for _, other := range table {
			sought(t, known, c.name+other.name)
			sought(t, known, c.name+" "+other.name)
		}
	}
	for _, c := range []struct {
		part string
		op   int
		is   bool
	}{
		{"alt", 41, true}, {"lt", 16, true}, {"al", 0, false}, {"halt", 1, true}, {"hal", 0, false},
		{"xor", 11, true}, {"or", 10, true}, {"xo", 0, false}, {"x", 0, false},
		{"now", 28, true}, {"no", 0, false}, {"j", 0, false}, {"jz", 19, true}, {"jnz", 20, true}, {"nz", 0, false},
		{"join", 31, true}, {"in", 0, false}, {"fall", 39, true}, {"call", 22, true}, {"all", 0, false},
		{"gskip", 45, true}, {"skip", 0, false}, {"gbar", 43, true}, {"bar", 0, false}, {"gtime", 44, true}, {"time", 0, false},
	} {
		found(t, c.part, c.op, c.is)
	}
}

// P9.2: names with one byte taken away, one put in, or one changed for another, whichever byte it is.
func TestFindNear(t *testing.T) {
	known := numbers()
	for _, c := range table {
		n := c.name
		for i := range len(n) + 1 {
			for b := range 256 {
				s := string([]byte{byte(b)})
				sought(t, known, n[:i]+s+n[i:])
				if i < len(n) {
					sought(t, known, n[:i]+s+n[i+1:])
				}
			}
			if i < len(n) {
				sought(t, known, n[:i]+n[i+1:])
			}
			if i+1 < len(n) {
				sought(t, known, n[:i]+n[i+1:i+2]+n[i:i+1]+n[i+2:])
			}
		}
	}
}

// P9.2: of all texts of up to four small letters just the table's names are found.
func TestFindAll(t *testing.T) {
	known, got := numbers(), 0
	var all func(s string, left int)
	all = func(s string, left int) {
		sought(t, known, s)
		if _, is := known[s]; is {
			got++
		}
		if left > 0 {
			for r := 'a'; r <= 'z'; r++ {
				all(s+string(r), left-1)
			}
		}
	}
	all("", 4)
	short := 0
	for _, c := range table {
		if len(c.name) <= 4 {
			short++
		}
	}
	if got != short {
		t.Errorf("%d names of up to four letters were met; want %d", got, short)
	}
}

// noNames are texts that are none of the table's names, but stand near it in the chapter, or elsewhere.
var noNames = []string{
	"0", "1", "7", "41", "47", "48", "-1", "00", "0x29", // numbers
	"-", "--", "---", "rr-", "rij", "rrr", "t--", "rt-", "s--", "r--", "rpr", "cr-", "b--", "k--", "rk-", "rmn", "crg", "b-g", "r-g", "--g", "rb-", // forms
	"Nop", "Halt", "Alt", "Size", "Many", "many", "opcode", "name", "form", "class", "pri", "fair", "any", "if", // words that stand near names
	"move", "not ", "jump", "yield", "wait", "time", "skip", "bar", "guard", "mod", "ne", "gt", "le", "push", "pop", "start", // others' instructions
	" ", "\t", "\n", "|", "nop|halt", "nop,halt", "nop\nhalt", // what parts names
	"\x00", "\x29", "\xff", "\x80", "\xef\xbb\xbf", "no\xff", "\xc3\x28", "\xf0\x9f", // bytes that are no letters
	"\uff4e\uff4f\uff50", "n\u043ep", "\u0430lt", "ha\u0142t", "se\u0301t", "\u017fet", "\u017fync", "gs\u212aip", "\ufb02ush", // letters of other scripts, and such as look like a name's, or fold to one
}

// P9.2: texts of other kinds.
func TestFindOthers(t *testing.T) {
	for _, s := range noNames {
		found(t, s, 0, false)
	}
	for b := range 256 {
		found(t, string([]byte{byte(b)}), 0, false)
		found(t, string([]byte{byte(b), byte(b), byte(b)}), 0, false)
	}
}

// P9.2: texts of many hundred letters.
func TestFindLong(t *testing.T) {
	for _, c := range table {
		for _, many := range []int{200, 256, 500, 1000, 65536} {
			found(t, strings.Repeat(c.name, many), 0, false)
			found(t, c.name+strings.Repeat(" ", many), 0, false)
			found(t, c.name+strings.Repeat("\x00", many), 0, false)
			found(t, strings.Repeat("a", many)+c.name, 0, false)
		}
	}
	for _, s := range []string{"a", "n", "-", "r", "0", " ", "\x00", "\xff", "\u00e9"} {
		found(t, strings.Repeat(s, 777), 0, false)
	}
}

// P9.3: no two opcodes have one name, and none has an empty one.
func TestOneName(t *testing.T) {
	seen := map[string]int{}
	for op := range Many {
		n := Name(op)
		if was, is := seen[n]; is || n == "" {
			t.Errorf("Name of %d: %q; that of %d", op, n, was)
		}
		seen[n] = op
		for _, r := range n {
			if r < 'a' || r > 'z' {
				t.Errorf("Name of %d: %q", op, n)
			}
		}
	}
	if len(seen) != count {
		t.Errorf("%d names; want %d", len(seen), count)
	}
}

// P9.3: each form has three letters, each of them one that the chapter's words know: i and, behind it, j.
func TestForms(t *testing.T) {
	used := map[rune]bool{}
	for op := range Many {
		f := Form(op)
		if len(f) != 3 {
			t.Errorf("Form of %d: %q", op, f)
		}
		for i, r := range f {
			used[r] = true
			if !strings.ContainsRune("-rijtcbkpmngs", r) {
				t.Errorf("Form of %d: %q", op, f)
			}
			if r == 'j' && (i == 0 || f[i-1] != 'i') || r == 'i' && !strings.HasPrefix(f[i:], "ij") {
				t.Errorf("Form of %d: %q", op, f)
			}
		}
	}
	for _, r := range "-rijtcbkpmngs" {
		if !used[r] {
			t.Errorf("%q is in no form", r)
		}
	}
}

// P9.1: each class is one of the six that the chapter's words know, and has as many opcodes as the table tells.
func TestClasses(t *testing.T) {
	var got [6]int
	for op := range Many {
		c := Class(op)
		if c < 0 || c > 5 {
			t.Fatalf("Class of %d: %d", op, c)
		}
		got[c]++
	}
	if want := [6]int{19, 6, 7, 4, 10, 2}; got != want {
		t.Errorf("%v; want %v", got, want)
	}
}
