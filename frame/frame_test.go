package frame

import (
	"fmt"
	"math"
	"math/rand"
	"slices"
	"strings"
	"testing"

	"becket/api"
)

// The ends of words, the last place, and how many there are of what a frame has, as the document tells them.
const (
	least    = -2147483648
	greatest = 2147483647
	last     = 64
	regs     = 8
	memory   = 16
	calls    = 8
)

// words are the ends of the words, some that are near them, near 0, near the ends of smaller types, and in between.
var words = []int{least, least + 1, -65537, -32769, -256, -129, -65, -2, -1, 0, 1, 2, 7, 8, 16, 64, 65, 127, 128, 255, 256, 32768, 65535, 65536, 1000000007, greatest - 1, greatest}

// noWords are numbers that are no words: just outside of them, such as become one when they are cut to fewer bits, and the ends of the type.
var noWords = []int{math.MinInt, math.MinInt + 1, -1 << 62, -1<<32 - 1, -1 << 32, -1<<32 + 7, least - 2, least - 1, greatest + 1, greatest + 2, 1<<32 - 1, 1 << 32, 1<<32 + 7, 1 << 40, 1 << 62, math.MaxInt - 1, math.MaxInt}

// places are the ends of the places, and some in between.
var places = []int{0, 1, 2, 7, 8, 9, 31, 32, 62, 63, 64}

// far are numbers that are neither places nor numbers of registers, of memory or of calls: below 0 and far behind, among them such as become one when they are cut to fewer bits.
var far = []int{math.MinInt, math.MinInt + 1, math.MinInt + 3, -1 << 62, -1<<32 - 1, -1 << 32, -1<<32 + 3, least - 1, least, -65536, -256, -255, -65, -64, -16, -8, -2, -1, 65, 66, 127, 128, 255, 256, 257, 65536, 65537, greatest, greatest + 1, 1 << 32, 1<<32 + 1, 1<<32 + 8, 1 << 62, math.MaxInt - 1, math.MaxInt}

// Where a frame's numbers stand in its list: where it is, whether it was bad, registers, memory, how many calls, calls.
const (
	atPC     = 0
	atBad    = 1
	atRegs   = 2
	atMemory = atRegs + regs
	atDepth  = atMemory + memory
	atCalls  = atDepth + 1
	all      = atCalls + calls
)

// listed is a frame as a list of its numbers.
func listed(f Frame) []int {
	l := []int{f.PC, 0}
	if f.Bad {
		l[atBad] = 1
	}
	l = append(l, f.Regs[:]...)
	l = append(l, f.Words[:]...)
	l = append(l, f.Depth)
	return append(l, f.Stack[:]...)
}

// made is the frame of a list of its numbers.
func made(l []int) Frame {
	f := Frame{PC: l[atPC], Bad: l[atBad] == 1, Depth: l[atDepth]}
	for i := range f.Regs {
		f.Regs[i] = l[atRegs+i]
	}
	for i := range f.Words {
		f.Words[i] = l[atMemory+i]
	}
	for i := range f.Stack {
		f.Stack[i] = l[atCalls+i]
	}
	return f
}

// with is a frame that has a number at a place of its list.
func with(f Frame, at, n int) Frame {
	l := listed(f)
	l[at] = n
	return made(l)
}

// busy is a frame in which all that may be other than 0 is, each number another one, with so many calls.
func busy(depth int) Frame {
	f := Frame{PC: 17, Bad: true, Depth: depth}
	for i := range f.Regs {
		f.Regs[i] = 1000 + 7*i
	}
	for i := range f.Words {
		f.Words[i] = -2000 - 11*i
	}
	for i := range depth {
		f.Stack[i] = 20 + 3*i
	}
	return f
}

// some are frames that may be: such as are at the beginning, busy ones of all numbers of calls, and such as have all numbers at their ends.
func some() []Frame {
	out := []Frame{{}, {Bad: true}, {Regs: [regs]int{5}}, {PC: last}, {PC: last - 1}}
	for depth := range calls + 1 {
		f := busy(depth)
		out = append(out, f, with(f, atBad, 0), with(f, atPC, last), with(f, atPC, last-1), with(f, atPC, 0))
	}
	low, high := Frame{Depth: calls}, Frame{PC: last, Bad: true, Depth: calls}
	for i := range regs {
		low.Regs[i], high.Regs[i] = least, greatest
	}
	for i := range memory {
		low.Words[i], high.Words[i] = least, greatest
	}
	for i := range calls {
		high.Stack[i] = last
	}
	return append(out, low, high)
}

// wrong are frames that may not be: in each of some just one number is wrong.
func wrong() []Frame {
	var out []Frame
	for _, f := range some() {
		for at := range all {
			low, high, _ := ends(listed(f), at)
			if at != atBad && at != atDepth {
				out = append(out, with(f, at, low-1), with(f, at, high+1), with(f, at, math.MinInt), with(f, at, math.MaxInt))
			}
		}
		for _, n := range far {
			out = append(out, with(f, atDepth, n))
		}
		out = append(out, with(f, atDepth, calls+1))
	}
	return out
}

// ends are the least and the greatest number that a list may have at a place, and what stands there.
func ends(l []int, at int) (low, high, n int) {
	switch {
	case at == atPC:
		return 0, last, l[at]
	case at == atBad:
		return 0, 1, l[at]
	case at < atDepth:
		return least, greatest, l[at]
	case at == atDepth:
		return 0, calls, l[at]
	case at-atCalls < l[atDepth]:
		return 0, last, l[at]
	}
	return 0, 0, l[at]
}

// may tells what the chapter tells of Fine.
func may(f Frame) bool {
	l := listed(f)
	for at := range l {
		if low, high, n := ends(l, at); n < low || n > high {
			return false
		}
	}
	return true
}

// got is what the chapter tells of Get and Load: so many numbers stand in the list from a place on.
func got(f Frame, from, many, i int) (int, api.Errno) {
	switch {
	case !may(f):
		return 0, api.ErrArg
	case i < 0 || i >= many:
		return 0, api.ErrRange
	}
	return listed(f)[from+i], api.OK
}

// put is what the chapter tells of Set and Store.
func put(f Frame, from, many, i, x int) (Frame, api.Errno) {
	if _, e := got(f, from, many, i); e != api.OK {
		return f, e
	}
	if x < least || x > greatest {
		return f, api.ErrRange
	}
	return with(f, from+i, x), api.OK
}

// gone is what the chapter tells of Go.
func gone(f Frame, pc int) (Frame, api.Errno) {
	switch {
	case !may(f):
		return f, api.ErrArg
	case pc < 0 || pc > last:
		return f, api.ErrRange
	}
	return with(f, atPC, pc), api.OK
}

// called is what the chapter tells of Call.
func called(f Frame, pc int) (Frame, api.Errno) {
	switch {
	case !may(f):
		return f, api.ErrArg
	case f.Depth == calls:
		return f, api.ErrStack
	case pc < 0 || pc > last || f.PC == last:
		return f, api.ErrRange
	}
	l := listed(f)
	l[atCalls+l[atDepth]] = l[atPC] + 1
	l[atDepth]++
	l[atPC] = pc
	return made(l), api.OK
}

// returned is what the chapter tells of Ret.
func returned(f Frame) (Frame, api.Errno) {
	switch {
	case !may(f):
		return f, api.ErrArg
	case f.Depth == 0:
		return f, api.ErrStack
	}
	l := listed(f)
	l[atDepth]--
	l[atPC] = l[atCalls+l[atDepth]]
	l[atCalls+l[atDepth]] = 0
	return made(l), api.OK
}

// written is what the chapter tells of Text.
func written(f Frame) string {
	if !may(f) {
		return ""
	}
	s := fmt.Sprint("pc ", f.PC)
	if f.Bad {
		s += " bad"
	}
	for _, l := range []string{"r" + fmt.Sprint(f.Regs[:]), "m" + fmt.Sprint(f.Words[:]), "s" + fmt.Sprint(f.Stack[:f.Depth])} {
		s += " " + strings.TrimSpace(l[:1]+" "+strings.Trim(l[1:], "[]"))
	}
	return s
}

// an act is a call that answers a frame, and the numbers that it is handed.
type act struct {
	name string
	i, x int
}

// is fails, unless Fine answers so.
func is(t *testing.T, f Frame, want bool) {
	t.Helper()
	if got := Fine(f); got != want {
		t.Errorf("Fine(%v): %t; want %t", f, got, want)
	}
}

// gives fails, unless a call that answers a number answers so.
func gives(t *testing.T, name string, call func(Frame, int) (int, api.Errno), f Frame, i, want int, err api.Errno) {
	t.Helper()
	if got, e := call(f, i); got != want || e != err {
		t.Errorf("%s(%v, %d): %d, %d; want %d, %d", name, f, i, got, e, want, err)
	}
}

// comes fails, unless a call that answers a frame has answered so.
func comes(t *testing.T, a act, f, got Frame, e api.Errno, want Frame, err api.Errno) {
	if got != want || e != err {
		t.Helper()
		t.Errorf("%v of %v: %v, %d; want %v, %d", a, f, got, e, want, err)
	}
}

// sets fails, unless Set answers so.
func sets(t *testing.T, f Frame, r, x int, want Frame, err api.Errno) {
	t.Helper()
	got, e := Set(f, r, x)
	comes(t, act{"Set", r, x}, f, got, e, want, err)
}

// stores fails, unless Store answers so.
func stores(t *testing.T, f Frame, at, x int, want Frame, err api.Errno) {
	t.Helper()
	got, e := Store(f, at, x)
	comes(t, act{"Store", at, x}, f, got, e, want, err)
}

// goes fails, unless Go answers so.
func goes(t *testing.T, f Frame, pc int, want Frame, err api.Errno) {
	t.Helper()
	got, e := Go(f, pc)
	comes(t, act{"Go", pc, 0}, f, got, e, want, err)
}

// enters fails, unless Call answers so.
func enters(t *testing.T, f Frame, pc int, want Frame, err api.Errno) {
	t.Helper()
	got, e := Call(f, pc)
	comes(t, act{"Call", pc, 0}, f, got, e, want, err)
}

// leaves fails, unless Ret answers so.
func leaves(t *testing.T, f Frame, want Frame, err api.Errno) {
	t.Helper()
	got, e := Ret(f)
	comes(t, act{"Ret", 0, 0}, f, got, e, want, err)
}

// tells fails, unless Text answers so.
func tells(t *testing.T, f Frame, want string) {
	t.Helper()
	if got := Text(f); got != want {
		t.Errorf("Text(%v): %q; want %q", f, got, want)
	}
}

// does is what an act answers, and what the chapter asks of it.
func (a act) does(f Frame) (got Frame, e api.Errno, want Frame, err api.Errno) {
	switch a.name {
	case "Set":
		got, e = Set(f, a.i, a.x)
		want, err = put(f, atRegs, regs, a.i, a.x)
	case "Store":
		got, e = Store(f, a.i, a.x)
		want, err = put(f, atMemory, memory, a.i, a.x)
	case "Go":
		got, e = Go(f, a.i)
		want, err = gone(f, a.i)
	case "Call":
		got, e = Call(f, a.i)
		want, err = called(f, a.i)
	case "Ret":
		got, e = Ret(f)
		want, err = returned(f)
	}
	return got, e, want, err
}

// names are those of the acts.
var names = []string{"Set", "Store", "Go", "Call", "Ret"}

// acts fails, unless an act answers what the chapter asks, and what comes may be just if what was handed in may be.
func acts(t *testing.T, f Frame, a act) Frame {
	got, e, want, err := a.does(f)
	comes(t, a, f, got, e, want, err)
	if Fine(got) != may(f) {
		t.Errorf("%v of %v: %v: a frame that may be is to stay one, and no other to become one", a, f, got)
	}
	return got
}

// holds fails, unless what is asked of a frame is answered as the chapter asks.
func holds(t *testing.T, f Frame) {
	t.Helper()
	is(t, f, may(f))
	tells(t, f, written(f))
	for i := -2; i < memory+2; i++ {
		n, e := got(f, atRegs, regs, i)
		gives(t, "Get", Get, f, i, n, e)
		n, e = got(f, atMemory, memory, i)
		gives(t, "Load", Load, f, i, n, e)
	}
}

// byChance is one of a list.
func byChance(r *rand.Rand, l []int) int { return l[r.Intn(len(l))] }

// actByChance is an act, most often one without an error.
func actByChance(r *rand.Rand) act {
	a := act{name: names[r.Intn(len(names))], x: byChance(r, words)}
	switch a.name {
	case "Set":
		a.i = r.Intn(regs)
	case "Store":
		a.i = r.Intn(memory)
	case "Ret":
		return a
	default:
		a.i = r.Intn(last + 1)
	}
	switch r.Intn(12) {
	case 0:
		a.i = byChance(r, far)
	case 1:
		a.x = byChance(r, noWords)
	case 2:
		a.i = r.Intn(last + 2)
	}
	return a
}

// frameByChance is a frame that may be, or may not.
func frameByChance(r *rand.Rand) Frame {
	l := listed(busy(r.Intn(calls + 1)))
	for at := range l {
		if low, high, _ := ends(l, at); at != atDepth && r.Intn(2) == 0 {
			l[at] = low + r.Intn(high-low+1)
		}
	}
	if r.Intn(2) == 0 {
		at := r.Intn(all)
		low, high, _ := ends(l, at)
		if at != atBad {
			l[at] = byChance(r, []int{low - 1, low, high, high + 1, byChance(r, far), r.Intn(70)})
		}
	}
	return made(l)
}

// The example of the chapter.
func TestExamples(t *testing.T) {
	f, e := New(7)
	comes(t, act{"New", 7, 0}, Frame{}, f, e, Frame{Regs: [regs]int{7}}, api.OK)
	tells(t, f, "pc 0 r 7 0 0 0 0 0 0 0 m 0 0 0 0 0 0 0 0 0 0 0 0 0 0 0 0 s")
}

// P13.1: the numbers of what a frame has are those of the document.
func TestParts(t *testing.T) {
	if f := (Frame{}); len(f.Regs) != regs || len(f.Words) != memory || len(f.Stack) != calls {
		t.Errorf("%d registers, %d words, %d calls", len(f.Regs), len(f.Words), len(f.Stack))
	}
}

// P13.1: New of the least and the greatest word, 0 and others: it is in register 0, and all else is 0.
func TestNew(t *testing.T) {
	for _, x := range words {
		f, e := New(x)
		comes(t, act{"New", x, 0}, Frame{}, f, e, with(Frame{}, atRegs, x), api.OK)
		is(t, f, true)
	}
}

// P13.1: New of one less than the least word, one more than the greatest, and other numbers that are no words.
func TestNewNoWord(t *testing.T) {
	for _, x := range noWords {
		f, e := New(x)
		comes(t, act{"New", x, 0}, Frame{}, f, e, Frame{}, api.ErrRange)
	}
}

// P13.1: the ends of each part of a frame, written out.
func TestFineTable(t *testing.T) {
	for _, c := range []struct {
		name string
		f    Frame
		want bool
	}{
		{"nothing", Frame{}, true},
		{"bad", Frame{Bad: true}, true},
		{"PC -1", Frame{PC: -1}, false},
		{"PC 64", Frame{PC: 64}, true},
		{"PC 65", Frame{PC: 65}, false},
		{"Depth -1", Frame{Depth: -1}, false},
		{"Depth 8", Frame{Depth: 8}, true},
		{"Depth 9", Frame{Depth: 9}, false},
		{"least", Frame{Regs: [8]int{least}, Words: [16]int{15: least}}, true},
		{"greatest", Frame{Regs: [8]int{7: greatest}, Words: [16]int{greatest}}, true},
		{"first register too small", Frame{Regs: [8]int{least - 1}}, false},
		{"last register too great", Frame{Regs: [8]int{7: greatest + 1}}, false},
		{"first word too great", Frame{Words: [16]int{greatest + 1}}, false},
		{"last word too small", Frame{Words: [16]int{15: least - 1}}, false},
		{"a call at 64", Frame{Depth: 1, Stack: [8]int{64}}, true},
		{"a call at 65", Frame{Depth: 1, Stack: [8]int{65}}, false},
		{"a call at -1", Frame{Depth: 1, Stack: [8]int{-1}}, false},
		{"eight calls", Frame{Depth: 8, Stack: [8]int{1, 2, 3, 4, 5, 6, 7, 64}}, true},
		{"the eighth call at 65", Frame{Depth: 8, Stack: [8]int{7: 65}}, false},
		{"a place that does not count", Frame{Stack: [8]int{1}}, false},
		{"the last place that does not count", Frame{Depth: 7, Stack: [8]int{7: 64}}, false},
		{"below 0 where nothing counts", Frame{Depth: 7, Stack: [8]int{7: -1}}, false},
	} {
		if got := Fine(c.f); got != c.want {
			t.Errorf("%s: %t; want %t", c.name, got, c.want)
		}
	}
}

// P13.1: a frame may be at each place from 0 to 64, and at no other.
func TestFinePC(t *testing.T) {
	for _, f := range some() {
		for pc := range last + 1 {
			is(t, with(f, atPC, pc), true)
		}
		for _, pc := range far {
			is(t, with(f, atPC, pc), false)
		}
	}
}

// P13.1: from 0 to 8 calls, all at place 0, and no other number of them.
func TestFineDepth(t *testing.T) {
	for depth := range calls + 1 {
		is(t, Frame{Depth: depth}, true)
	}
	for _, depth := range append([]int{calls + 1, calls + 2, last}, far...) {
		is(t, Frame{Depth: depth}, false)
		is(t, with(busy(calls), atDepth, depth), false)
	}
}

// P13.1: each register and each word of memory is a word.
func TestFineWords(t *testing.T) {
	for _, f := range some() {
		for at := atRegs; at < atDepth; at++ {
			for _, x := range words {
				is(t, with(f, at, x), true)
			}
			for _, x := range noWords {
				is(t, with(f, at, x), false)
			}
		}
	}
}

// P13.1: with each number of calls, those that count are from 0 to 64, the others 0.
func TestFineStack(t *testing.T) {
	for depth := range calls + 1 {
		f := busy(depth)
		for i := range calls {
			is(t, with(f, atCalls+i, 0), true)
			for _, n := range places[1:] {
				is(t, with(f, atCalls+i, n), i < depth)
			}
			for _, n := range far {
				is(t, with(f, atCalls+i, n), false)
			}
		}
	}
}

// P13.1: be it bad or not, a frame may be or may not.
func TestFineBad(t *testing.T) {
	for _, f := range some() {
		is(t, with(f, atBad, 1), true)
		is(t, with(f, atBad, 0), true)
	}
	for _, f := range wrong() {
		is(t, with(f, atBad, 1), false)
		is(t, with(f, atBad, 0), false)
	}
}

// P13.2: each register and each word of memory is got by its number.
func TestGetLoad(t *testing.T) {
	for _, f := range some() {
		for i := range regs {
			gives(t, "Get", Get, f, i, f.Regs[i], api.OK)
		}
		for i := range memory {
			gives(t, "Load", Load, f, i, f.Words[i], api.OK)
		}
	}
	f := busy(3)
	gives(t, "Get", Get, f, 0, 1000, api.OK)
	gives(t, "Get", Get, f, 7, 1049, api.OK)
	gives(t, "Load", Load, f, 0, -2000, api.OK)
	gives(t, "Load", Load, f, 7, -2077, api.OK)
	gives(t, "Load", Load, f, 8, -2088, api.OK)
	gives(t, "Load", Load, f, 15, -2165, api.OK)
}

// P13.2: there is no register below 0 or from 8 on, and no word of memory below 0 or from 16 on.
func TestGetLoadNone(t *testing.T) {
	for _, f := range some() {
		for _, i := range append([]int{8, 9, 15, 16}, far...) {
			gives(t, "Get", Get, f, i, 0, api.ErrRange)
		}
		for _, i := range append([]int{16, 17, 31, 32}, far...) {
			gives(t, "Load", Load, f, i, 0, api.ErrRange)
		}
	}
}

// P13.2: each register and each word of memory is set by its number, to each word.
func TestSetStore(t *testing.T) {
	for _, f := range some() {
		for _, x := range words {
			for i := range regs {
				sets(t, f, i, x, with(f, atRegs+i, x), api.OK)
			}
			for i := range memory {
				stores(t, f, i, x, with(f, atMemory+i, x), api.OK)
			}
		}
	}
}

// P13.2: what is no word, and what has no number, is not set; the frame is the one that was handed in.
func TestSetStoreNone(t *testing.T) {
	for _, f := range some() {
		for _, x := range append(slices.Clone(noWords), 0, 5, least, greatest) {
			for _, i := range append([]int{8, 9, 15, 16}, far...) {
				sets(t, f, i, x, f, api.ErrRange)
			}
			for _, i := range append([]int{16, 17, 31, 32}, far...) {
				stores(t, f, i, x, f, api.ErrRange)
			}
		}
		for _, x := range noWords {
			for i := range regs {
				sets(t, f, i, x, f, api.ErrRange)
			}
			for i := range memory {
				stores(t, f, i, x, f, api.ErrRange)
			}
		}
	}
}

// P13.2: of a frame that may not be all calls tell ErrArg, ahead of all else, and leave it as it is; its text is empty.
func TestWrongFrame(t *testing.T) {
	for _, f := range wrong() {
		for _, i := range []int{math.MinInt, -1, 0, 7, 8, 15, 16, 64, 65, math.MaxInt} {
			gives(t, "Get", Get, f, i, 0, api.ErrArg)
			gives(t, "Load", Load, f, i, 0, api.ErrArg)
			goes(t, f, i, f, api.ErrArg)
			enters(t, f, i, f, api.ErrArg)
			for _, x := range []int{math.MinInt, least - 1, least, 0, 5, greatest, greatest + 1, math.MaxInt} {
				sets(t, f, i, x, f, api.ErrArg)
				stores(t, f, i, x, f, api.ErrArg)
			}
		}
		leaves(t, f, f, api.ErrArg)
		tells(t, f, "")
	}
}

// P13.3: from everywhere a process goes to each place from 0 to 64.
func TestGo(t *testing.T) {
	for _, f := range some() {
		for pc := range last + 1 {
			goes(t, f, pc, with(f, atPC, pc), api.OK)
		}
		for _, pc := range far {
			goes(t, f, pc, f, api.ErrRange)
		}
	}
}

// P13.3: calls from each place but the last one, to each place, with each number of calls but the last one.
func TestCall(t *testing.T) {
	for depth := range calls {
		for from := range last {
			f := with(busy(depth), atPC, from)
			for pc := range last + 1 {
				want := f
				want.PC, want.Depth = pc, depth+1
				want.Stack[depth] = from + 1
				enters(t, f, pc, want, api.OK)
			}
		}
	}
}

// P13.3: calls that are not to be, and which error comes first.
func TestCallErrors(t *testing.T) {
	for depth := range calls + 1 {
		err := api.ErrRange
		if depth == calls {
			err = api.ErrStack
		}
		f := busy(depth)
		for _, pc := range far { // to no place, from where a call may be, and from where it may not
			enters(t, f, pc, f, err)
			enters(t, with(f, atPC, last), pc, with(f, atPC, last), err)
		}
		for pc := range last + 1 { // from the last place, behind which there is none
			enters(t, with(f, atPC, last), pc, with(f, atPC, last), err)
		}
	}
	full := busy(calls)
	for pc := range last + 1 { // one call too many alone
		enters(t, full, pc, full, api.ErrStack)
	}
}

// P13.3: the edges of calls, written out.
func TestCallTable(t *testing.T) {
	f := Frame{PC: 63}
	enters(t, f, 0, Frame{Depth: 1, Stack: [8]int{64}}, api.OK)
	enters(t, f, 64, Frame{PC: 64, Depth: 1, Stack: [8]int{64}}, api.OK)
	enters(t, f, 63, Frame{PC: 63, Depth: 1, Stack: [8]int{64}}, api.OK)
	enters(t, f, 65, f, api.ErrRange)
	enters(t, f, -1, f, api.ErrRange)
	f = Frame{PC: 64}
	enters(t, f, 0, f, api.ErrRange)
	f = Frame{PC: 5, Depth: 7, Stack: [8]int{1, 2, 3, 4, 5, 6, 7}}
	enters(t, f, 9, Frame{PC: 9, Depth: 8, Stack: [8]int{1, 2, 3, 4, 5, 6, 7, 6}}, api.OK)
	f = Frame{PC: 64, Depth: 8}
	enters(t, f, 65, f, api.ErrStack)
}

// P13.3: with each number of calls the innermost one is gone back to, and its place is 0 then.
func TestRet(t *testing.T) {
	leaves(t, Frame{}, Frame{}, api.ErrStack)
	f := busy(0)
	leaves(t, f, f, api.ErrStack)
	for depth := 1; depth <= calls; depth++ {
		for from := range last + 1 {
			for to := range last + 1 {
				f := busy(depth)
				f.PC, f.Stack[depth-1] = from, to
				want := busy(depth - 1)
				want.PC = to
				leaves(t, f, want, api.OK)
			}
		}
	}
}

// P13.3: the edges of returns, written out.
func TestRetTable(t *testing.T) {
	leaves(t, Frame{PC: 9, Depth: 1, Stack: [8]int{64}}, Frame{PC: 64}, api.OK)
	leaves(t, Frame{PC: 64, Depth: 1}, Frame{}, api.OK)
	leaves(t, Frame{Depth: 2, Stack: [8]int{5, 6}}, Frame{PC: 6, Depth: 1, Stack: [8]int{5}}, api.OK)
	leaves(t, Frame{Depth: 8, Stack: [8]int{1, 2, 3, 4, 5, 6, 7, 8}}, Frame{PC: 8, Depth: 7, Stack: [8]int{1, 2, 3, 4, 5, 6, 7}}, api.OK)
}

// P13.4: texts of frames, written out.
func TestText(t *testing.T) {
	nought := strings.Repeat(" 0", 8)
	tells(t, Frame{}, "pc 0 r"+nought+" m"+nought+nought+" s")
	tells(t, Frame{Bad: true}, "pc 0 bad r"+nought+" m"+nought+nought+" s")
	tells(t, Frame{PC: 64, Depth: 1, Stack: [8]int{64}}, "pc 64 r"+nought+" m"+nought+nought+" s 64")
	tells(t, Frame{PC: 64, Bad: true, Depth: 2}, "pc 64 bad r"+nought+" m"+nought+nought+" s 0 0")
	tells(t, Frame{
		PC:    9,
		Regs:  [8]int{least, -1, 2, 3, 4, 5, 6, greatest},
		Words: [16]int{greatest, 1, 2, 3, 4, 5, 6, 7, 8, 9, -10, 11, 12, 13, 14, least},
		Depth: 8,
		Stack: [8]int{64, 1, 2, 3, 4, 5, 6, 0},
	}, "pc 9 r -2147483648 -1 2 3 4 5 6 2147483647 m 2147483647 1 2 3 4 5 6 7 8 9 -10 11 12 13 14 -2147483648 s 64 1 2 3 4 5 6 0")
	tells(t, busy(1), "pc 17 bad r 1000 1007 1014 1021 1028 1035 1042 1049 m -2000 -2011 -2022 -2033 -2044 -2055 -2066 -2077 -2088 -2099 -2110 -2121 -2132 -2143 -2154 -2165 s 20")
}

// P13.4: the texts of frames that may be, with each number of calls, by a second reading.
func TestTextAll(t *testing.T) {
	for _, f := range some() {
		tells(t, f, written(f))
		for _, x := range words {
			for at := atRegs; at < atDepth; at++ {
				tells(t, with(f, at, x), written(with(f, at, x)))
			}
		}
	}
	for _, pc := range places {
		f := with(busy(4), atPC, pc)
		tells(t, f, written(f))
	}
}

// P13.5: what is set is got, also when something else is set behind it, and nothing else has changed.
func TestSetGet(t *testing.T) {
	f := busy(4)
	for i, x := range words {
		before := f
		r, at := i%regs, i%memory
		f, _ = Set(f, r, x)
		f, _ = Store(f, at, -1-x)
		gives(t, "Get", Get, f, r, x, api.OK)
		gives(t, "Load", Load, f, at, -1-x, api.OK)
		for k := range regs {
			if k != r {
				gives(t, "Get", Get, f, k, before.Regs[k], api.OK)
			}
		}
		for k := range memory {
			if k != at {
				gives(t, "Load", Load, f, k, before.Words[k], api.OK)
			}
		}
		if f.PC != before.PC || f.Bad != before.Bad || f.Depth != before.Depth || f.Stack != before.Stack {
			t.Errorf("Set %d, Store %d: %v; was %v", r, at, f, before)
		}
	}
}

// P13.5: who calls and returns is behind the call, and all else is as it was; so it is of calls within calls.
func TestCallRet(t *testing.T) {
	for _, f := range some() {
		for pc := range last + 1 {
			if in, e := Call(f, pc); e == api.OK {
				leaves(t, in, with(f, atPC, f.PC+1), api.OK)
			}
		}
	}
	f := Frame{PC: 40, Bad: true}
	chain := []Frame{f}
	for i := range calls {
		in, e := Call(chain[i], 3*i)
		if e != api.OK {
			t.Fatalf("call %d: %d", i, e)
		}
		chain = append(chain, in)
	}
	at := chain[calls]
	for i := calls; i > 0; i-- {
		want := with(chain[i-1], atPC, chain[i-1].PC+1)
		leaves(t, at, want, api.OK)
		at, _ = Ret(at)
	}
	leaves(t, at, at, api.ErrStack)
}

// P13.5: all runs of four calls of a few kinds, held against a second reading; what was handed in stays as it was.
func TestRuns(t *testing.T) {
	few := []act{{"Set", 0, 5}, {"Set", 7, least - 1}, {"Store", 15, -6}, {"Store", 16, 6}, {"Go", 63, 0}, {"Go", 65, 0}, {"Call", 2, 0}, {"Call", 64, 0}, {"Ret", 0, 0}}
	var run func(f Frame, left int)
	run = func(f Frame, left int) {
		if left == 0 {
			holds(t, f)
			return
		}
		for _, a := range few {
			before := f
			next := acts(t, f, a)
			if f != before {
				t.Fatalf("%v: %v; was %v", a, f, before)
			}
			run(next, left-1)
		}
	}
	for _, f := range []Frame{{}, busy(6)} {
		run(f, 4)
	}
}

// P13.1 to P13.5: long runs by chance, held against a second reading; a frame that may be stays one.
func TestLongRuns(t *testing.T) {
	r := rand.New(rand.NewSource(13))
	for range 20 {
		f, e := New(byChance(r, words))
		if e != api.OK {
			t.Fatal(e)
		}
		for range 1000 {
			f = acts(t, f, actByChance(r))
			if r.Intn(20) == 0 {
				f.Bad = !f.Bad
			}
			holds(t, f)
			if !Fine(f) {
				t.Fatalf("%v: may not be", f)
			}
		}
	}
}

// P13.1 to P13.5: frames by chance, which may be or may not, and each call of them.
func TestChance(t *testing.T) {
	r := rand.New(rand.NewSource(31))
	yes := 0
	for range 20000 {
		f := frameByChance(r)
		if may(f) {
			yes++
		}
		holds(t, f)
		for range 4 {
			acts(t, f, actByChance(r))
		}
	}
	if yes < 5000 || yes > 17000 {
		t.Errorf("%d frames of 20000 may be: too few of one kind", yes)
	}
}

// P13.1 to P13.5: nothing is kept from call to call: what was answered once is answered again, whatever was asked in between.
func TestAgain(t *testing.T) {
	r := rand.New(rand.NewSource(5))
	for range 2000 {
		f, a := frameByChance(r), actByChance(r)
		first, e, _, _ := a.does(f)
		text := Text(f)
		acts(t, frameByChance(r), actByChance(r))
		second, err, _, _ := a.does(f)
		comes(t, a, f, second, err, first, e)
		tells(t, f, text)
	}
}
