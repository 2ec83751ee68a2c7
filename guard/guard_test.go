package guard

import (
	"fmt"
	"math"
	"math/rand"
	"slices"
	"strconv"
	"strings"
	"testing"

	"becket/api"
)

// The ends of words, the last instant, the last number of a guard, the last one of channels, of barriers and of registers, and how many guards there are at most, as the document tells them.
const (
	least    = -2147483648
	greatest = 2147483647
	end      = 1099511627776
	lastNo   = 5
	last     = 7
	most     = 6
)

// kinds are those that there are.
var kinds = []int{1, 2, 3, 4, 5, 6}

// far are numbers that no kind, and no field of a guard, may be: the ends of int, and such as lose their height, or their sign, when they are cut to fewer bits.
var far = []int{math.MinInt, math.MinInt + 1, math.MinInt + 5, -1 << 62, -end - 1, -end, -1<<32 + 1, -1 << 32, least - 1, end + 1, end + 3, 2 * end, 1 << 62, math.MaxInt - 5, math.MaxInt - 1, math.MaxInt}

// noKinds are numbers that are no kinds.
var noKinds = slices.Concat(far, []int{-65536, -65535, -257, -256, -255, -7, -6, -5, -4, -3, -2, -1, 0, 7, 8, 9, 12, 16, 32, 64, 128, 255, 256, 257, 258, 262, 65535, 65536, 65537, 65542, greatest, 1 << 31, 1 << 32, 1<<32 + 1, 1<<32 + 6, end})

// nos are all numbers that a guard may have, and noNos are such as none has.
var (
	nos   = []int{0, 1, 2, 3, 4, 5}
	noNos = slices.Concat(far, []int{-65536, -256, -251, -6, -5, -4, -3, -2, -1, 6, 7, 8, 9, 16, 64, 255, 256, 257, 261, 65536, 65541, greatest, 1 << 31, 1 << 32, 1<<32 + 5, end})
)

// places are all channels, barriers and registers, and noPlaces are numbers that are none.
var (
	places   = []int{0, 1, 2, 3, 4, 5, 6, 7}
	noPlaces = slices.Concat(far, []int{-65536, -256, -249, -8, -7, -6, -5, -4, -3, -2, -1, 8, 9, 10, 15, 16, 64, 255, 256, 257, 263, 65536, 65543, greatest, 1 << 31, 1 << 32, 1<<32 + 7, end})
)

// words are both ends of the words, and some that lie between, and noWords are numbers that are no words.
var (
	words   = []int{least, least + 1, -65537, -65536, -256, -8, -7, -1, 0, 1, 5, 6, 7, 8, 12, 255, 256, 4097, 65536, 1000000007, greatest - 1, greatest}
	noWords = slices.Concat(far, []int{least - 2, greatest + 1, greatest + 2, 1<<32 - 1, 1 << 32, 1<<32 + 1, end - 1, end})
)

// instants are both ends of the instants, and some that lie between, and noInstants are numbers that are no instants.
var (
	instants   = []int{0, 1, 5, 7, 8, 12, 255, 65536, greatest, greatest + 1, 1<<32 - 1, 1 << 32, end - 1, end}
	noInstants = slices.Concat(far, []int{least, least + 1, -65536, -256, -12, -2, -1})
)

// parts tells of each kind what its Obj, its Val and its Reg are: a channel, a barrier, a register, a word, an instant, or nothing.
var parts = map[int]string{1: "c-r", 2: "cw-", 3: "b--", 4: "-i-", 5: "---", 6: "-wr"}

// by is a guard by its fields.
func by(kind, obj, val, reg, no int) api.Guard {
	return api.Guard{Kind: kind, Obj: obj, Val: val, Reg: reg, No: no}
}

// The guards of each kind.
func in(c, r, no int) api.Guard   { return by(1, c, 0, r, no) }
func out(c, x, no int) api.Guard  { return by(2, c, x, 0, no) }
func bar(b, no int) api.Guard     { return by(3, b, 0, 0, no) }
func till(t, no int) api.Guard    { return by(4, 0, t, 0, no) }
func skip(no int) api.Guard       { return by(5, 0, 0, 0, no) }
func join(h, r, no int) api.Guard { return by(6, 0, h, r, no) }

// list is a list of guards.
func list(l ...api.Guard) []api.Guard { return l }

// skips are so many guards of kind Skip, numbered from 0 on.
func skips(many int) []api.Guard {
	var l []api.Guard
	for no := range many {
		l = append(l, skip(no))
	}
	return l
}

// plain are guards with which nothing is wrong, one of each kind, none of whose own fields is 0.
func plain() []api.Guard {
	return list(in(3, 5, 1), out(4, -9, 2), bar(6, 3), till(12, 4), skip(5), join(4097, 2, 3))
}

// fields are a guard's Obj, Val and Reg.
func fields(g *api.Guard) []*int { return []*int{&g.Obj, &g.Val, &g.Reg} }

// may are numbers that a field of that sort may have; not are numbers that it may not have.
func may(sort byte) (may, not []int) {
	switch sort {
	case 'w':
		return words, noWords
	case 'i':
		return instants, noInstants
	case '-':
		return []int{0}, slices.Concat(far, []int{-65536, -256, -8, -1, 1, 2, 5, 7, 8, 256, 65536, least, greatest, 1 << 32, end})
	}
	return places, noPlaces
}

// fine are many guards of that kind with which nothing is wrong: with all numbers of each of its fields, and with 0 in those that it has not.
func fine(kind int) []api.Guard {
	var l []api.Guard
	objs, _ := may(parts[kind][0])
	vals, _ := may(parts[kind][1])
	regs, _ := may(parts[kind][2])
	for _, obj := range objs {
		for _, val := range vals {
			for _, reg := range regs {
				for _, no := range nos {
					l = append(l, by(kind, obj, val, reg, no))
				}
			}
		}
	}
	return l
}

// judged is a second reading of what Check answers.
func judged(g api.Guard) api.Errno {
	sorts, is := parts[g.Kind]
	if !is {
		return api.ErrKind
	}
	bad, stray := g.No < 0 || g.No > lastNo, false
	for i, n := range fields(&g) {
		switch sorts[i] {
		case '-':
			stray = stray || *n != 0
		case 'w':
			bad = bad || *n < least || *n > greatest
		case 'i':
			bad = bad || *n < 0 || *n > end
		default:
			bad = bad || *n < 0 || *n > last
		}
	}
	switch {
	case bad:
		return api.ErrRange
	case stray:
		return api.ErrForm
	}
	return api.OK
}

// agreed is a second reading of what All answers.
func agreed(l []api.Guard) (int, api.Errno) {
	if len(l) == 0 {
		return 0, api.ErrEmpty
	}
	if len(l) > most {
		return most, api.ErrMany
	}
	met := map[[2]int]bool{} // the kinds and Objs of those by which a guard may clash
	for i, g := range l {
		if e := judged(g); e != api.OK {
			return i, e
		}
		if i > 0 && !(g.No > l[i-1].No) {
			return i, api.ErrForm
		}
		if at := [2]int{g.Kind, g.Obj}; g.Kind <= 3 {
			if met[at] {
				return i, api.ErrThere
			}
			met[at] = true
		}
	}
	return 0, api.OK
}

// written is a second reading of a guard's text.
func written(g api.Guard) string {
	switch g.Kind {
	case 1:
		return fmt.Sprintf("%d: in c%d r%d", g.No, g.Obj, g.Reg)
	case 2:
		return fmt.Sprintf("%d: out c%d %d", g.No, g.Obj, g.Val)
	case 3:
		return fmt.Sprintf("%d: bar b%d", g.No, g.Obj)
	case 4:
		return fmt.Sprintf("%d: time %d", g.No, g.Val)
	case 5:
		return fmt.Sprintf("%d: skip", g.No)
	}
	return fmt.Sprintf("%d: join %d r%d", g.No, g.Val, g.Reg)
}

// guardOf reads a guard from its text; it fails, if it is none.
func guardOf(t *testing.T, s string) api.Guard {
	t.Helper()
	no, rest, _ := strings.Cut(s, ": ")
	name, rest, _ := strings.Cut(rest, " ")
	number := func(s, lead string) int {
		digits, is := strings.CutPrefix(s, lead)
		n, err := strconv.Atoi(digits)
		if !is || err != nil || strconv.Itoa(n) != digits {
			t.Fatalf("%q: %q is no number behind %q", s, digits, lead)
		}
		return n
	}
	a, b, _ := strings.Cut(rest, " ")
	switch name {
	case "in":
		return in(number(a, "c"), number(b, "r"), number(no, ""))
	case "out":
		return out(number(a, "c"), number(b, ""), number(no, ""))
	case "bar":
		return bar(number(rest, "b"), number(no, ""))
	case "time":
		return till(number(rest, ""), number(no, ""))
	case "skip":
		return skip(number(no, ""))
	case "join":
		return join(number(a, ""), number(b, "r"), number(no, ""))
	}
	t.Fatalf("%q is no guard's text", s)
	return api.Guard{}
}

// checks fails, unless Check answers so, and Text with it.
func checks(t *testing.T, g api.Guard, want api.Errno) {
	t.Helper()
	if e := Check(g); e != want {
		t.Fatalf("Check(%+v): %d; want %d", g, e, want)
	}
	s, e := Text(g)
	if e != want {
		t.Fatalf("Text(%+v): %q, %d; want %d", g, s, e, want)
	}
	if want != api.OK && s != "" {
		t.Fatalf("Text(%+v): %q beside %d", g, s, e)
	}
}

// all fails, unless All answers so, and leaves what it was handed as it was.
func all(t *testing.T, l []api.Guard, at int, want api.Errno) {
	t.Helper()
	held, whole := within(l)
	got, e := All(held)
	if got != at || e != want {
		t.Fatalf("All(%+v): %d, %d; want %d, %d", l, got, e, at, want)
	}
	untouched(t, l, whole)
}

// reads fails, unless Text answers so.
func reads(t *testing.T, g api.Guard, want string) {
	t.Helper()
	if s, e := Text(g); s != want || e != api.OK {
		t.Fatalf("Text(%+v): %q, %d; want %q, 0", g, s, e, want)
	}
}

// tells fails, unless Texts answers so, and leaves what it was handed as it was.
func tells(t *testing.T, l []api.Guard, want string, err api.Errno) {
	t.Helper()
	held, whole := within(l)
	if s, e := Texts(held); s != want || e != err {
		t.Fatalf("Texts(%+v): %q, %d; want %q, %d", l, s, e, want, err)
	}
	untouched(t, l, whole)
}

// due fails, unless Earliest answers so, and leaves what it was handed as it was.
func due(t *testing.T, l []api.Guard, want int, there bool) {
	t.Helper()
	held, whole := within(l)
	if got, is := Earliest(held); got != want || is != there {
		t.Fatalf("Earliest(%+v): %d, %v; want %d, %v", l, got, is, want, there)
	}
	untouched(t, l, whole)
}

// finds fails, unless Find answers so, and leaves what it was handed as it was.
func finds(t *testing.T, l []api.Guard, no int, want api.Guard, there bool) {
	t.Helper()
	held, whole := within(l)
	if g, is := Find(held, no); g != want || is != there {
		t.Fatalf("Find(%+v, %d): %+v, %v; want %+v, %v", l, no, g, is, want, there)
	}
	untouched(t, l, whole)
}

// beside is what lies in longer memory beside a list: less, and greater, than all that is asked for.
var beside = by(4, 9, math.MinInt, 9, 3)

// within is a copy of a list that lies within longer memory, and that memory.
func within(l []api.Guard) (held, whole []api.Guard) {
	whole = slices.Concat(list(beside, beside), l, list(beside, beside))
	return whole[2 : 2+len(l)], whole
}

// untouched fails, unless the longer memory is as within made it.
func untouched(t *testing.T, l, whole []api.Guard) {
	t.Helper()
	if _, want := within(l); !slices.Equal(whole, want) {
		t.Fatalf("of %+v was made %+v", want, whole)
	}
}

// The chapter's example.
func TestExample(t *testing.T) {
	l := list(in(0, 1, 0), till(12, 2))
	all(t, l, 0, api.OK)
	tells(t, l, "0: in c0 r1, 2: time 12", api.OK)
}

// P25.1: Check of a guard of each kind, with its fields in the middle, and at both ends.
func TestCheck(t *testing.T) {
	for _, g := range list(
		in(3, 5, 1), in(0, 0, 0), in(7, 7, 5), in(0, 7, 0), in(7, 0, 5),
		out(4, -9, 2), out(0, 0, 0), out(7, greatest, 5), out(7, least, 0), out(0, greatest, 5), out(0, least, 0),
		bar(6, 3), bar(0, 0), bar(7, 5), bar(0, 5), bar(7, 0),
		till(12, 4), till(0, 0), till(end, 5), till(0, 5), till(end, 0), till(greatest+1, 1),
		skip(2), skip(0), skip(5),
		join(4097, 2, 3), join(0, 0, 0), join(greatest, 7, 5), join(least, 0, 0), join(greatest, 0, 5), join(least, 7, 0), join(-1, 1, 1),
	) {
		checks(t, g, api.OK)
	}
}

// P25.1: Check takes all guards of each kind: with each number of its own fields, beside each of the others.
func TestCheckFine(t *testing.T) {
	for _, kind := range kinds {
		for _, g := range fine(kind) {
			checks(t, g, api.OK)
		}
	}
}

// P25.1: what is no kind: ErrKind, whatever the fields are, also if more is wrong.
func TestCheckKind(t *testing.T) {
	for _, kind := range noKinds {
		checks(t, by(kind, 0, 0, 0, 0), api.ErrKind)
		for _, g := range plain() {
			g.Kind = kind
			checks(t, g, api.ErrKind)
			for _, n := range []int{math.MinInt, -1, 6, 8, math.MaxInt} {
				checks(t, by(kind, g.Obj, g.Val, g.Reg, n), api.ErrKind)
				checks(t, by(kind, n, g.Val, g.Reg, g.No), api.ErrKind)
				checks(t, by(kind, g.Obj, n, g.Reg, g.No), api.ErrKind)
				checks(t, by(kind, g.Obj, g.Val, n, g.No), api.ErrKind)
				checks(t, by(kind, n, n, n, n), api.ErrKind)
			}
		}
	}
}

// P25.1: the named edges of each of a kind's own fields: one ahead of the first number, both ends, and one behind the last.
func TestCheckEdges(t *testing.T) {
	for _, c := range []struct {
		ahead, first, last, behind api.Guard
	}{
		{in(-1, 1, 1), in(0, 1, 1), in(7, 1, 1), in(8, 1, 1)},
		{in(1, -1, 1), in(1, 0, 1), in(1, 7, 1), in(1, 8, 1)},
		{in(1, 1, -1), in(1, 1, 0), in(1, 1, 5), in(1, 1, 6)},
		{out(-1, 1, 1), out(0, 1, 1), out(7, 1, 1), out(8, 1, 1)},
		{out(1, least-1, 1), out(1, least, 1), out(1, greatest, 1), out(1, greatest+1, 1)},
		{out(1, 1, -1), out(1, 1, 0), out(1, 1, 5), out(1, 1, 6)},
		{bar(-1, 1), bar(0, 1), bar(7, 1), bar(8, 1)},
		{bar(1, -1), bar(1, 0), bar(1, 5), bar(1, 6)},
		{till(-1, 1), till(0, 1), till(end, 1), till(end+1, 1)},
		{till(1, -1), till(1, 0), till(1, 5), till(1, 6)},
		{skip(-1), skip(0), skip(5), skip(6)},
		{join(least-1, 1, 1), join(least, 1, 1), join(greatest, 1, 1), join(greatest+1, 1, 1)},
		{join(1, -1, 1), join(1, 0, 1), join(1, 7, 1), join(1, 8, 1)},
		{join(1, 1, -1), join(1, 1, 0), join(1, 1, 5), join(1, 1, 6)},
	} {
		checks(t, c.ahead, api.ErrRange)
		checks(t, c.first, api.OK)
		checks(t, c.last, api.OK)
		checks(t, c.behind, api.ErrRange)
	}
}

// P25.1: a number that may not be in just one of a kind's own fields, far off and just beside: ErrRange.
func TestCheckRange(t *testing.T) {
	for _, g := range plain() {
		for i, n := range fields(&g) {
			if parts[g.Kind][i] == '-' {
				continue
			}
			was := *n
			_, not := may(parts[g.Kind][i])
			for _, *n = range not {
				checks(t, g, api.ErrRange)
			}
			*n = was
		}
		for _, g.No = range noNos {
			checks(t, g, api.ErrRange)
		}
	}
}

// P25.1: just one of the fields that another kind has, and this one has not, is not 0: ErrForm, whether or not it may be with the other kind.
func TestCheckForm(t *testing.T) {
	for _, g := range plain() {
		for i, n := range fields(&g) {
			if parts[g.Kind][i] != '-' {
				continue
			}
			_, not := may('-')
			for _, *n = range not {
				checks(t, g, api.ErrForm)
			}
			*n = 0
		}
		checks(t, g, api.OK)
	}
}

// P25.1: more than one wrong at once: ErrKind goes ahead of all, and ErrRange ahead of ErrForm, whichever fields they are in.
func TestCheckOrder(t *testing.T) {
	for _, c := range []struct {
		g api.Guard
		e api.Errno
	}{
		{by(0, 8, 1, 8, 6), api.ErrKind}, {by(7, -1, 1, -1, -1), api.ErrKind}, {by(0, 1, 1, 1, 1), api.ErrKind},
		{by(1, 8, 1, 0, 0), api.ErrRange}, {by(1, 0, 1, 8, 0), api.ErrRange}, {by(1, 0, 1, 0, 6), api.ErrRange}, {by(1, -1, 1, -1, -1), api.ErrRange}, {by(1, 0, 1, 0, 0), api.ErrForm},
		{by(2, 8, 0, 1, 0), api.ErrRange}, {by(2, 0, greatest+1, 1, 0), api.ErrRange}, {by(2, 0, 0, 1, -1), api.ErrRange}, {by(2, 8, least-1, 8, 6), api.ErrRange}, {by(2, 0, 0, 8, 0), api.ErrForm},
		{by(3, 8, 1, 0, 0), api.ErrRange}, {by(3, 8, 0, 1, 0), api.ErrRange}, {by(3, 0, 1, 1, 6), api.ErrRange}, {by(3, -1, -1, -1, -1), api.ErrRange}, {by(3, 0, 1, 1, 0), api.ErrForm}, {by(3, 0, greatest+1, 8, 0), api.ErrForm},
		{by(4, 1, -1, 0, 0), api.ErrRange}, {by(4, 0, end+1, 1, 0), api.ErrRange}, {by(4, 1, 0, 1, 6), api.ErrRange}, {by(4, 8, -1, 8, -1), api.ErrRange}, {by(4, 8, 0, 0, 0), api.ErrForm}, {by(4, 0, 0, 8, 0), api.ErrForm},
		{by(5, 1, 1, 1, 6), api.ErrRange}, {by(5, 1, 0, 0, -1), api.ErrRange}, {by(5, 0, 1, 0, 6), api.ErrRange}, {by(5, 0, 0, 1, 6), api.ErrRange}, {by(5, 8, end+1, 8, 5), api.ErrForm}, {by(5, -1, -1, -1, 0), api.ErrForm},
		{by(6, 1, greatest+1, 0, 0), api.ErrRange}, {by(6, 1, 0, 8, 0), api.ErrRange}, {by(6, 1, 0, 0, 6), api.ErrRange}, {by(6, 8, least-1, -1, -1), api.ErrRange}, {by(6, 8, 0, 0, 0), api.ErrForm}, {by(6, -1, 0, 0, 0), api.ErrForm},
	} {
		checks(t, c.g, c.e)
	}
}

// P25.1: guards of all sorts, of each number of fields that are right and wrong, held against a second reading.
func TestCheckAllSorts(t *testing.T) {
	kinds := []int{math.MinInt, -1, 0, 1, 2, 3, 4, 5, 6, 7, 257, math.MaxInt}
	objs := []int{math.MinInt, -1, 0, 1, 6, 7, 8, 256, math.MaxInt}
	vals := []int{math.MinInt, least - 1, least, -1, 0, 1, 7, 8, greatest, greatest + 1, end, end + 1, math.MaxInt}
	regs := []int{math.MinInt, -1, 0, 1, 7, 8, 263, math.MaxInt}
	nos := []int{math.MinInt, -1, 0, 1, 5, 6, 1 << 32, math.MaxInt}
	for _, kind := range kinds {
		for _, obj := range objs {
			for _, val := range vals {
				for _, reg := range regs {
					for _, no := range nos {
						g := by(kind, obj, val, reg, no)
						checks(t, g, judged(g))
					}
				}
			}
		}
	}
}

// chance is a guard by chance: mostly, but not always, one with which nothing is wrong.
func chance(r *rand.Rand) api.Guard {
	kind := kinds[r.Intn(len(kinds))]
	g := by(kind, 0, 0, 0, nos[r.Intn(len(nos))])
	for i, n := range fields(&g) {
		from, not := may(parts[kind][i])
		if r.Intn(20) == 0 {
			from = not
		}
		*n = from[r.Intn(len(from))]
	}
	switch r.Intn(40) {
	case 0:
		g.Kind = noKinds[r.Intn(len(noKinds))]
	case 1:
		g.No = noNos[r.Intn(len(noNos))]
	}
	return g
}

// P25.1: guards by chance, held against a second reading.
func TestCheckChance(t *testing.T) {
	r := rand.New(rand.NewSource(251))
	seen := map[api.Errno]int{}
	for range 200000 {
		g := chance(r)
		e := judged(g)
		checks(t, g, e)
		seen[e]++
	}
	for _, e := range []api.Errno{api.OK, api.ErrKind, api.ErrRange, api.ErrForm} {
		if seen[e] < 1000 {
			t.Fatalf("%d guards of %d: too few", seen[e], e)
		}
	}
}

// P25.1: All of none, be the list nil or empty.
func TestAllNone(t *testing.T) {
	for _, l := range [][]api.Guard{nil, {}, skips(3)[:0]} {
		if at, e := All(l); at != 0 || e != api.ErrEmpty {
			t.Fatalf("All of none: %d, %d", at, e)
		}
	}
}

// P25.1: All of one: what Check says of it, at place 0; its number need not be 0.
func TestAllOne(t *testing.T) {
	for _, kind := range kinds {
		for _, g := range fine(kind) {
			all(t, list(g), 0, api.OK)
		}
	}
	r := rand.New(rand.NewSource(2510))
	for range 20000 {
		g := chance(r)
		all(t, list(g), 0, judged(g))
	}
}

// P25.1: All of six: of all kinds, of one kind each, and with a number that may not be at each place.
func TestAllSix(t *testing.T) {
	for _, l := range [][]api.Guard{
		skips(most),
		list(in(0, 0, 0), out(0, 5, 1), bar(0, 2), till(12, 3), skip(4), join(4097, 1, 5)),
		list(join(0, 7, 0), skip(1), till(end, 2), bar(7, 3), out(7, least, 4), in(7, 7, 5)),
		list(in(5, 0, 0), in(4, 0, 1), in(3, 0, 2), in(2, 0, 3), in(1, 0, 4), in(0, 0, 5)),
		list(out(0, 1, 0), out(1, 1, 1), out(2, 1, 2), out(3, 1, 3), out(6, 1, 4), out(7, 1, 5)),
		list(bar(7, 0), bar(0, 1), bar(6, 2), bar(1, 3), bar(5, 4), bar(2, 5)),
		list(till(9, 0), till(9, 1), till(9, 2), till(9, 3), till(9, 4), till(9, 5)),
		list(join(1, 1, 0), join(1, 1, 1), join(1, 1, 2), join(1, 1, 3), join(1, 1, 4), join(1, 1, 5)),
	} {
		all(t, l, 0, api.OK)
		for many := 1; many < len(l); many++ {
			all(t, l[:many], 0, api.OK)
			all(t, l[many:], 0, api.OK)
		}
		for at := range l {
			for _, no := range []int{-1, 6} {
				spoilt := slices.Clone(l)
				spoilt[at].No = no
				all(t, spoilt, at, api.ErrRange)
			}
			spoilt := slices.Clone(l)
			spoilt[at].Kind = 7
			all(t, spoilt, at, api.ErrKind)
		}
	}
}

// P25.1: All of seven and more: 6 and ErrMany, whatever they are, also if something is wrong with them.
func TestAllMany(t *testing.T) {
	for _, many := range []int{7, 8, 9, 12, 16, 64, 255, 256, 257, 262, 1000, 65536, 65542} {
		all(t, skips(many), most, api.ErrMany)
		all(t, slices.Repeat(list(skip(0)), many), most, api.ErrMany)
		all(t, slices.Repeat(list(by(0, -1, -1, -1, -1)), many), most, api.ErrMany)
		all(t, slices.Repeat(list(in(8, 0, 0)), many), most, api.ErrMany)
		all(t, slices.Repeat(list(by(5, 1, 0, 0, 0)), many), most, api.ErrMany)
		all(t, slices.Repeat(list(bar(1, 1)), many), most, api.ErrMany)
	}
}

// P25.1: All of numbers that rise with gaps, that are equal, and that fall: ErrForm, at the first one that is not above the one just ahead.
func TestAllNumbers(t *testing.T) {
	of := func(nos ...int) []api.Guard {
		var l []api.Guard
		for _, no := range nos {
			l = append(l, skip(no))
		}
		return l
	}
	for _, nos := range [][]int{{0}, {5}, {0, 5}, {1, 2}, {0, 2, 4}, {1, 3, 5}, {2, 3, 5}, {0, 1, 2, 5}, {0, 2, 3, 4, 5}, {4, 5}} {
		all(t, of(nos...), 0, api.OK)
	}
	for _, c := range []struct {
		nos []int
		at  int
	}{
		{[]int{0, 0}, 1}, {[]int{5, 5}, 1}, {[]int{3, 3}, 1}, {[]int{1, 0}, 1}, {[]int{5, 0}, 1}, {[]int{5, 4}, 1},
		{[]int{0, 1, 1}, 2}, {[]int{0, 1, 0}, 2}, {[]int{0, 5, 1}, 2}, {[]int{0, 5, 4}, 2}, {[]int{2, 1, 5}, 1}, {[]int{1, 1, 1}, 1},
		{[]int{0, 1, 2, 2}, 3}, {[]int{0, 2, 4, 3}, 3}, {[]int{0, 2, 4, 1, 5}, 3}, {[]int{0, 1, 2, 3, 4, 4}, 5}, {[]int{0, 1, 2, 3, 4, 0}, 5}, {[]int{0, 1, 3, 2, 4, 5}, 3}, {[]int{5, 4, 3, 2, 1, 0}, 1},
	} {
		all(t, of(c.nos...), c.at, api.ErrForm)
	}
}

// P25.1: all lists of numbers of up to six guards, from -1 to 6.
func TestAllNumbersAll(t *testing.T) {
	var grow func(l []api.Guard)
	grow = func(l []api.Guard) {
		at, e := agreed(l)
		if len(l) > 0 {
			all(t, l, at, e)
		}
		if len(l) == most {
			return
		}
		for no := -1; no <= lastNo+1; no++ {
			if len(l) > 3 && e != api.OK {
				return // what stands further behind is not looked at any more
			}
			grow(append(slices.Clip(l), skip(no)))
		}
	}
	grow(nil)
}

// P25.1: All of guards that clash, beside each other and apart: ErrThere, at the later one, also if their other fields are unlike.
func TestAllClash(t *testing.T) {
	for _, c := range []struct {
		l  []api.Guard
		at int
	}{
		{list(in(3, 1, 0), in(3, 1, 1)), 1}, {list(in(3, 1, 0), in(3, 2, 1)), 1}, {list(in(0, 1, 0), in(0, 1, 1)), 1}, {list(in(7, 1, 0), in(7, 1, 5)), 1},
		{list(out(3, 1, 0), out(3, 1, 1)), 1}, {list(out(3, 1, 0), out(3, 2, 1)), 1}, {list(out(0, 1, 0), out(0, -1, 1)), 1}, {list(out(7, 1, 0), out(7, 1, 5)), 1},
		{list(bar(3, 0), bar(3, 1)), 1}, {list(bar(0, 0), bar(0, 1)), 1}, {list(bar(7, 0), bar(7, 5)), 1},
		{list(in(3, 1, 0), in(4, 1, 1), in(3, 1, 2)), 2}, {list(in(3, 1, 0), skip(1), in(3, 1, 2)), 2}, {list(skip(0), in(3, 1, 1), in(3, 1, 2)), 2},
		{list(out(3, 1, 0), in(3, 1, 1), out(3, 1, 2)), 2}, {list(bar(3, 0), in(3, 1, 1), out(3, 1, 2), bar(3, 3)), 3},
		{list(in(0, 0, 0), out(0, 0, 1), bar(0, 2), till(0, 3), skip(4), in(0, 0, 5)), 5},
		{list(in(0, 0, 0), out(0, 0, 1), bar(0, 2), till(0, 3), skip(4), out(0, 0, 5)), 5},
		{list(in(0, 0, 0), out(0, 0, 1), bar(0, 2), till(0, 3), skip(4), bar(0, 5)), 5},
		{list(in(1, 0, 0), in(2, 0, 1), in(3, 0, 2), in(4, 0, 3), in(5, 0, 4), in(1, 0, 5)), 5},
		{list(bar(1, 0), bar(2, 1), bar(2, 2), bar(1, 3)), 2}, {list(in(1, 0, 0), out(1, 0, 1), out(1, 0, 2), in(1, 0, 3)), 2},
	} {
		all(t, c.l, c.at, api.ErrThere)
		all(t, c.l[:c.at], 0, api.OK)
	}
}

// P25.1: guards of one Obj that are of unlike kinds do not clash, nor do those of one kind and unlike Objs, nor any two of Time, of Skip, or of Join.
func TestAllNoClash(t *testing.T) {
	for c := range last + 1 {
		all(t, list(in(c, 0, 0), out(c, 0, 1), bar(c, 2)), 0, api.OK)
		all(t, list(bar(c, 0), out(c, 0, 1), in(c, 0, 2)), 0, api.OK)
		for d := range last + 1 {
			for kind := 1; kind <= 3; kind++ {
				l := list(by(kind, c, 0, 0, 0), by(kind, d, 0, 0, 1))
				if c == d {
					all(t, l, 1, api.ErrThere)
				} else {
					all(t, l, 0, api.OK)
				}
			}
		}
	}
	all(t, list(till(9, 0), till(9, 1)), 0, api.OK)
	all(t, list(till(0, 0), skip(1), till(0, 2)), 0, api.OK)
	all(t, list(skip(0), skip(1)), 0, api.OK)
	all(t, list(join(9, 1, 0), join(9, 1, 1)), 0, api.OK)
	all(t, list(join(0, 0, 0), in(0, 0, 1), join(0, 0, 2)), 0, api.OK)
}

// P25.1: which error is told of a guard with which more than one thing is wrong: Check's, then ErrForm of its number, then ErrThere.
func TestAllOrderOfOne(t *testing.T) {
	for _, c := range []struct {
		l  []api.Guard
		at int
		e  api.Errno
	}{
		{list(in(3, 1, 2), by(7, 3, 0, 1, 2)), 1, api.ErrKind},       // no kind, and an equal number
		{list(in(3, 1, 2), by(0, 3, 0, 1, 1)), 1, api.ErrKind},       // no kind, and a number that falls
		{list(in(3, 1, 2), in(3, 8, 2)), 1, api.ErrRange},            // no register, an equal number, a clash
		{list(in(3, 1, 2), in(3, 1, -1)), 1, api.ErrRange},           // no number of a guard, and so one that falls; a clash
		{list(in(3, 1, 2), in(3, 1, 6)), 1, api.ErrRange},            // no number of a guard, but one that rises; a clash
		{list(in(3, 1, 2), in(3, 8, 3)), 1, api.ErrRange},            // no register, and a clash
		{list(in(3, 1, 2), by(1, 3, 1, 8, 2)), 1, api.ErrRange},      // no register, a field that is not its own, an equal number, a clash
		{list(bar(3, 2), by(3, 3, 1, 0, 3)), 1, api.ErrForm},         // a field that is not its own, and a clash
		{list(in(3, 1, 2), in(3, 1, 2)), 1, api.ErrForm},             // an equal number, and a clash
		{list(out(3, 1, 2), out(3, 1, 1)), 1, api.ErrForm},           // a number that falls, and a clash
		{list(bar(3, 4), skip(5), bar(3, 4)), 2, api.ErrForm},        // the same, apart
		{list(bar(3, 0), skip(3), bar(3, 2)), 2, api.ErrForm},        // a number above that of the one with which it clashes, but not above that of the one just ahead
		{list(out(3, 1, 0), skip(1), out(3, 1, 2)), 2, api.ErrThere}, // a clash alone
	} {
		all(t, c.l, c.at, c.e)
	}
}

// P25.1: of two guards with which something is wrong the first one is told of, whichever errors they are.
func TestAllOrderOfTwo(t *testing.T) {
	wrong := func(e api.Errno, no int) []api.Guard { // guards that, numbered from no on, are fine but for the last one
		switch e {
		case api.ErrKind:
			return list(by(7, 0, 0, 0, no))
		case api.ErrRange:
			return list(till(-1, no))
		case api.ErrForm:
			return list(by(5, 1, 0, 0, no))
		}
		return list(bar(2, no), bar(2, no+1))
	}
	errs := []api.Errno{api.ErrKind, api.ErrRange, api.ErrForm, api.ErrThere}
	for _, e := range errs {
		for _, f := range errs {
			for _, ahead := range [][]api.Guard{nil, list(skip(0))} {
				l := slices.Concat(ahead, wrong(e, 1))
				at := len(l) - 1
				all(t, l, at, e)
				all(t, slices.Concat(l, wrong(f, 3)), at, e)
				all(t, slices.Concat(l, list(skip(3)), wrong(f, 4)), at, e)
				all(t, slices.Concat(l, list(skip(0))), at, e) // behind it a number that falls
			}
		}
	}
	all(t, list(skip(1), skip(1), till(-1, 2)), 1, api.ErrForm)
	all(t, list(skip(2), skip(1), by(7, 0, 0, 0, 3)), 1, api.ErrForm)
	all(t, list(skip(1), till(-1, 2), skip(1)), 1, api.ErrRange)
	all(t, list(in(1, 1, 0), in(1, 1, 1), skip(1)), 1, api.ErrThere)
	all(t, list(in(1, 1, 0), skip(0), in(1, 1, 1)), 1, api.ErrForm)
}

// some are guards of which lists are made: such as clash, such as do not, of several numbers, and such as may not be.
func some() []api.Guard {
	return list(
		in(0, 1, 0), in(0, 2, 2), in(1, 1, 1), out(0, 5, 0), out(0, -5, 3), out(1, 5, 1), bar(0, 0), bar(0, 4), bar(1, 2),
		till(0, 1), till(12, 3), skip(0), skip(3), skip(5), join(0, 0, 2), join(4097, 1, 4),
		by(0, 0, 0, 0, 2), by(7, 0, 0, 0, 3), skip(6), skip(-1), in(8, 0, 3), out(0, greatest+1, 4), till(-1, 2), by(5, 0, 1, 0, 3), by(3, 0, 0, 1, 4))
}

// lists has each list of up to so many of some guards handed over.
func lists(many int, each func(l []api.Guard)) {
	var grow func(l []api.Guard)
	grow = func(l []api.Guard) {
		each(l)
		if len(l) == many {
			return
		}
		for _, g := range some() {
			grow(append(slices.Clip(l), g))
		}
	}
	grow(nil)
}

// P25.1: all lists of up to four of some guards, held against a second reading.
func TestAllLists(t *testing.T) {
	seen := map[api.Errno]int{}
	lists(4, func(l []api.Guard) {
		at, e := agreed(l)
		if got, is := All(l); got != at || is != e {
			t.Fatalf("All(%+v): %d, %d; want %d, %d", l, got, is, at, e)
		}
		seen[e]++
	})
	for _, e := range []api.Errno{api.OK, api.ErrEmpty, api.ErrKind, api.ErrRange, api.ErrForm, api.ErrThere} {
		if seen[e] == 0 {
			t.Fatalf("no list of error %d", e)
		}
	}
}

// lot is a list by chance of up to so many guards, whose numbers mostly rise.
func lot(r *rand.Rand, many int) []api.Guard {
	var l []api.Guard
	for range r.Intn(many + 1) {
		g := chance(r)
		if no := len(l) + r.Intn(2); r.Intn(20) > 0 && g.No >= 0 && g.No <= lastNo {
			g.No = no
		}
		l = append(l, g)
	}
	return l
}

// P25.1: lists by chance, of up to eight guards, held against a second reading.
func TestAllChance(t *testing.T) {
	r := rand.New(rand.NewSource(25100))
	long := 0
	for range 100000 {
		l := lot(r, most+2)
		at, e := agreed(l)
		all(t, l, at, e)
		if e == api.OK && len(l) >= 4 {
			long++
		}
	}
	if long < 500 {
		t.Fatalf("%d longer lists that may be: too few", long)
	}
}

// P25.2: Text of a guard of each kind, also of numbers below 0, at both ends, and with 0.
func TestText(t *testing.T) {
	for _, c := range []struct {
		g api.Guard
		s string
	}{
		{in(0, 1, 0), "0: in c0 r1"}, {in(7, 0, 5), "5: in c7 r0"}, {in(3, 7, 2), "2: in c3 r7"},
		{out(0, 5, 0), "0: out c0 5"}, {out(7, -9, 5), "5: out c7 -9"}, {out(1, 0, 1), "1: out c1 0"}, {out(2, least, 3), "3: out c2 -2147483648"}, {out(2, greatest, 3), "3: out c2 2147483647"}, {out(2, -1, 3), "3: out c2 -1"},
		{bar(0, 0), "0: bar b0"}, {bar(7, 5), "5: bar b7"},
		{till(12, 0), "0: time 12"}, {till(0, 4), "4: time 0"}, {till(end, 5), "5: time 1099511627776"},
		{skip(0), "0: skip"}, {skip(5), "5: skip"},
		{join(4097, 1, 0), "0: join 4097 r1"}, {join(-4097, 7, 5), "5: join -4097 r7"}, {join(0, 0, 1), "1: join 0 r0"}, {join(least, 2, 1), "1: join -2147483648 r2"}, {join(greatest, 2, 1), "1: join 2147483647 r2"},
	} {
		reads(t, c.g, c.s)
	}
}

// P25.2: Text of all guards that may be, held against a second reading.
func TestTextFine(t *testing.T) {
	for _, kind := range kinds {
		for _, g := range fine(kind) {
			reads(t, g, written(g))
		}
	}
}

// P25.2: Text of a guard that may not be: Check's error, and no text.
func TestTextErrors(t *testing.T) {
	for _, c := range []struct {
		g api.Guard
		e api.Errno
	}{
		{by(0, 0, 0, 0, 0), api.ErrKind}, {by(7, 0, 0, 0, 0), api.ErrKind}, {by(7, 8, 1, 8, 6), api.ErrKind},
		{skip(6), api.ErrRange}, {skip(-1), api.ErrRange}, {in(8, 0, 0), api.ErrRange}, {in(0, 8, 0), api.ErrRange}, {out(0, least-1, 0), api.ErrRange}, {bar(-1, 0), api.ErrRange}, {till(end+1, 0), api.ErrRange}, {join(greatest+1, 0, 0), api.ErrRange}, {by(5, 1, 0, 0, 6), api.ErrRange},
		{by(1, 0, 1, 0, 0), api.ErrForm}, {by(2, 0, 0, 1, 0), api.ErrForm}, {by(3, 0, 1, 0, 0), api.ErrForm}, {by(4, 1, 0, 0, 0), api.ErrForm}, {by(5, 0, 1, 0, 0), api.ErrForm}, {by(6, 1, 0, 0, 0), api.ErrForm},
	} {
		if s, e := Text(c.g); s != "" || e != c.e {
			t.Fatalf("Text(%+v): %q, %d; want none, %d", c.g, s, e, c.e)
		}
	}
}

// P25.2: Texts of none, of one, and of many, also of more than an alt has, and of such as All does not take.
func TestTexts(t *testing.T) {
	tells(t, nil, "", api.OK)
	tells(t, []api.Guard{}, "", api.OK)
	for _, kind := range kinds {
		for _, g := range fine(kind) {
			tells(t, list(g), written(g), api.OK)
		}
	}
	tells(t, list(skip(0), skip(1)), "0: skip, 1: skip", api.OK)
	tells(t, list(out(0, -5, 0), join(-1, 2, 1), bar(3, 5)), "0: out c0 -5, 1: join -1 r2, 5: bar b3", api.OK)
	tells(t, list(in(0, 1, 0), out(0, 5, 1), bar(0, 2), till(12, 3), skip(4), join(4097, 1, 5)), "0: in c0 r1, 1: out c0 5, 2: bar b0, 3: time 12, 4: skip, 5: join 4097 r1", api.OK)
	tells(t, list(skip(3), skip(3), skip(1)), "3: skip, 3: skip, 1: skip", api.OK)
	tells(t, list(bar(0, 0), bar(0, 1)), "0: bar b0, 1: bar b0", api.OK)
	for _, many := range []int{6, 7, 8, 100, 1000} {
		tells(t, slices.Repeat(list(skip(2)), many), strings.Repeat(", 2: skip", many)[2:], api.OK)
	}
}

// P25.2: Texts with an error at each place: that error, of the first guard that has one, and no text.
func TestTextsErrors(t *testing.T) {
	wrong := map[api.Errno]api.Guard{api.ErrKind: by(0, 0, 0, 0, 1), api.ErrRange: in(8, 0, 1), api.ErrForm: by(3, 0, 0, 1, 1)}
	for e, g := range wrong {
		for many := 1; many <= 9; many++ {
			for at := range many {
				l := slices.Repeat(list(out(3, 4, 1)), many)
				l[at] = g
				tells(t, l, "", e)
				for _, other := range wrong {
					for later := at + 1; later < many; later++ {
						two := slices.Clone(l)
						two[later] = other
						tells(t, two, "", e)
					}
				}
			}
		}
	}
}

// P25.2: Texts of lists by chance, held against a second reading guard by guard.
func TestTextsChance(t *testing.T) {
	r := rand.New(rand.NewSource(252))
	for range 50000 {
		l := lot(r, most+2)
		var told []string
		err := api.OK
		for _, g := range l {
			if e := judged(g); e != api.OK && err == api.OK {
				err = e
			}
			told = append(told, written(g))
		}
		if err != api.OK {
			told = nil
		}
		tells(t, l, strings.Join(told, ", "), err)
	}
}

// P25.3: Earliest of none, of one of kind Time, of several, wherever the least stands, and of none of kind Time.
func TestEarliest(t *testing.T) {
	due(t, nil, 0, false)
	due(t, []api.Guard{}, 0, false)
	for _, at := range instants {
		due(t, list(till(at, 3)), at, true)
		due(t, list(skip(0), till(at, 3), skip(4)), at, true)
	}
	due(t, list(till(5, 0), till(9, 1)), 5, true)
	due(t, list(till(9, 0), till(5, 1)), 5, true)
	due(t, list(till(9, 0), till(5, 1), till(7, 2)), 5, true)
	due(t, list(till(9, 0), till(9, 1)), 9, true)
	due(t, list(till(end, 0), till(end-1, 1)), end-1, true)
	due(t, list(till(1, 0), till(0, 1), till(2, 2)), 0, true)
	due(t, list(till(0, 0), till(1, 1)), 0, true)
	due(t, list(till(1<<32, 0), till(greatest, 1)), greatest, true)
	for _, g := range list(in(0, 1, 0), out(0, 5, 0), out(0, -5, 0), bar(0, 0), skip(0), join(4097, 1, 0), join(-4097, 1, 0)) {
		due(t, list(g), 0, false)
		due(t, slices.Repeat(list(g), most), 0, false)
	}
}

// P25.3: guards of other kinds, whose Val is less, or greater, are not asked, whatever their kind is.
func TestEarliestOthers(t *testing.T) {
	for _, val := range slices.Concat(words, noWords) {
		for _, kind := range slices.Concat([]int{1, 2, 3, 5, 6}, noKinds) {
			g := by(kind, 0, val, 0, 1)
			due(t, list(g), 0, false)
			due(t, list(g, g), 0, false)
			due(t, list(g, till(12, 2)), 12, true)
			due(t, list(till(12, 0), g), 12, true)
			due(t, list(g, till(12, 0), g, till(9, 1), g), 9, true)
			due(t, list(g, till(0, 0), g), 0, true)
		}
	}
}

// P25.3: guards of kind Time that may not be, by their Val, by their No, or by a field that is not theirs, are of kind Time all the same; so are such as stand where All takes none.
func TestEarliestWrong(t *testing.T) {
	for _, val := range slices.Concat(instants, noInstants) {
		due(t, list(till(val, 0)), val, true)
		due(t, list(by(4, 8, val, 8, 6)), val, true)
		due(t, list(till(12, 0), till(val, 1)), min(12, val), true)
		due(t, list(till(val, 1), till(12, 1), till(end, 0)), min(12, val), true)
	}
	due(t, list(by(4, 8, 3, 8, -1), till(5, 0)), 3, true)
	due(t, list(till(math.MaxInt, 0), till(math.MinInt, 1)), math.MinInt, true)
	due(t, list(till(math.MaxInt, 0), till(math.MaxInt-1, 1)), math.MaxInt-1, true)
	due(t, append(skips(100), till(8, 0), till(7, 0)), 7, true)
}

// P25.3: Earliest of lists by chance: somebody has it, of kind Time, and nobody of kind Time has less.
func TestEarliestChance(t *testing.T) {
	r := rand.New(rand.NewSource(253))
	for range 50000 {
		l := lot(r, most+2)
		var vals []int
		for _, g := range l {
			if g.Kind == 4 {
				vals = append(vals, g.Val)
			}
		}
		slices.Sort(vals)
		if len(vals) == 0 {
			due(t, l, 0, false)
		} else {
			due(t, l, vals[0], true)
		}
	}
}

// P25.3: Find of a number that is not there, that is there once, at each place, and that is there twice: then the first one.
func TestFind(t *testing.T) {
	none := api.Guard{}
	for _, no := range slices.Concat(nos, noNos) {
		finds(t, nil, no, none, false)
		finds(t, []api.Guard{}, no, none, false)
	}
	l := list(in(3, 1, 0), out(4, -5, 2), till(12, 3), join(4097, 1, 5))
	for _, g := range l {
		finds(t, l, g.No, g, true)
	}
	for _, no := range slices.Concat([]int{1, 4}, noNos) {
		finds(t, l, no, none, false)
	}
	finds(t, list(in(3, 1, 2), bar(1, 2)), 2, in(3, 1, 2), true)
	finds(t, list(bar(1, 2), in(3, 1, 2)), 2, bar(1, 2), true)
	finds(t, list(skip(0), bar(1, 2), skip(1), in(3, 1, 2), till(1, 2)), 2, bar(1, 2), true)
	finds(t, list(skip(5), bar(1, 0)), 0, bar(1, 0), true)
	finds(t, list(none), 0, none, true) // the empty guard has the number 0
	finds(t, list(none), 1, none, false)
}

// P25.3: guards that may not be are found by their numbers, whatever these are, and are answered as they are.
func TestFindWrong(t *testing.T) {
	for _, no := range slices.Concat(nos, noNos) {
		g := by(7, -1, math.MaxInt, 8, no)
		finds(t, list(g), no, g, true)
		finds(t, append(skips(most), g, by(0, 0, 0, 0, no)), no, firstOf(append(skips(most), g), no), true)
	}
	for _, no := range far { // the number that it would be, if it were cut to fewer bits, is another one
		finds(t, skips(most), no, api.Guard{}, false)
	}
	finds(t, append(skips(1000), bar(3, 1000)), 1000, bar(3, 1000), true)
	finds(t, skips(1000), 1000, api.Guard{}, false)
}

// firstOf is the first guard of a number that is there.
func firstOf(l []api.Guard, no int) api.Guard {
	var found []api.Guard
	for _, g := range l {
		if g.No == no {
			found = append(found, g)
		}
	}
	return found[0]
}

// P25.3: Find of all numbers in lists by chance.
func TestFindChance(t *testing.T) {
	r := rand.New(rand.NewSource(2530))
	for range 20000 {
		l := lot(r, most+2)
		there := map[int]bool{}
		for _, g := range l {
			there[g.No] = true
			finds(t, l, g.No, firstOf(l, g.No), true)
		}
		for no := -2; no <= lastNo+2; no++ {
			if !there[no] {
				finds(t, l, no, api.Guard{}, false)
			}
		}
	}
}

// R3: what is answered hangs on the arguments alone: it is the same again, whatever was asked between.
func TestSameAgain(t *testing.T) {
	type answers struct {
		at, val    int
		e, f       api.Errno
		s          string
		is, found  bool
		g          api.Guard
		one, other api.Errno
	}
	ask := func(l []api.Guard) (a answers) {
		a.at, a.e = All(l)
		a.s, a.f = Texts(l)
		a.val, a.is = Earliest(l)
		a.g, a.found = Find(l, 3)
		a.one, a.other = Check(a.g), Check(by(0, 0, 0, 0, len(l)))
		return a
	}
	r := rand.New(rand.NewSource(25))
	var asked [][]api.Guard
	var told []answers
	for range 2000 {
		l := lot(r, most+2)
		asked, told = append(asked, l), append(told, ask(l))
	}
	for i := len(asked) - 1; i >= 0; i-- {
		if got := ask(asked[i]); got != told[i] {
			t.Fatalf("%+v: %+v, then %+v", asked[i], told[i], got)
		}
	}
}

// P25.4: of guards that All takes no two have the same number: each one is the one that its number finds.
func TestToldApart(t *testing.T) {
	apart := func(l []api.Guard) bool {
		if _, e := All(l); e != api.OK {
			return false
		}
		taken := map[int]bool{}
		for _, g := range l {
			if taken[g.No] {
				t.Fatalf("All takes %+v", l)
			}
			taken[g.No] = true
			finds(t, l, g.No, g, true)
		}
		for no := range lastNo + 1 {
			if !taken[no] {
				finds(t, l, no, api.Guard{}, false)
			}
		}
		return true
	}
	many := 0
	lists(3, func(l []api.Guard) {
		if apart(l) {
			many++
		}
	})
	r := rand.New(rand.NewSource(254))
	for range 50000 {
		if apart(lot(r, most)) {
			many++
		}
	}
	if many < 5000 {
		t.Fatalf("%d lists that All takes: too few", many)
	}
}

// P25.4: guards that are unlike have unlike texts: from each text its guard is read again.
func TestTextsUnlike(t *testing.T) {
	of := map[string]api.Guard{}
	for _, kind := range kinds {
		for _, g := range fine(kind) {
			s, _ := Text(g)
			if other, there := of[s]; there {
				t.Fatalf("%+v and %+v: %q", g, other, s)
			}
			of[s] = g
			if read := guardOf(t, s); read != g {
				t.Fatalf("%q of %+v is read as %+v", s, g, read)
			}
		}
	}
	r := rand.New(rand.NewSource(2540))
	for range 100000 {
		g := by(kinds[r.Intn(len(kinds))], 0, 0, 0, r.Intn(lastNo+1))
		for i, n := range fields(&g) {
			switch parts[g.Kind][i] {
			case 'w':
				*n = int(int32(r.Uint32())) >> r.Intn(32)
			case 'i':
				*n = int(r.Int63n(end+1)) >> r.Intn(40)
			case '-':
			default:
				*n = r.Intn(last + 1)
			}
		}
		s, e := Text(g)
		if e != api.OK || guardOf(t, s) != g {
			t.Fatalf("%+v: %q, %d", g, s, e)
		}
	}
}

// P25.4: no two guards that All takes have one text, nor have two unlike lists of such.
func TestListsUnlike(t *testing.T) {
	of := map[string][]api.Guard{}
	lists(3, func(l []api.Guard) {
		if _, e := All(l); e != api.OK {
			return
		}
		s, e := Texts(l)
		if e != api.OK {
			t.Fatalf("Texts(%+v): %d", l, e)
		}
		if other, there := of[s]; there {
			t.Fatalf("%+v and %+v: %q", l, other, s)
		}
		of[s] = l
		var read []api.Guard
		for _, one := range strings.Split(s, ", ") {
			read = append(read, guardOf(t, one))
		}
		if !slices.Equal(read, l) {
			t.Fatalf("%q of %+v is read as %+v", s, l, read)
		}
	})
	if len(of) < 100 {
		t.Fatalf("%d lists that All takes: too few", len(of))
	}
}
