package roll

import (
	"math"
	"math/rand"
	"slices"
	"testing"

	"becket/api"
	"becket/bitset"
)

// last is the last process's number, as the chapter tells it.
const last = 15

// noProcs are numbers of no processes: beside the first one and the last one, such as become a process's when they are cut to fewer bits, or lose their sign, the ids of sets beyond the processes, what lies behind these, and the ends of int.
var noProcs = []int{math.MinInt, math.MinInt + 1, math.MinInt + 5, math.MinInt + 15, -1 << 32, -1<<32 + 5, -1 << 31, -65536, -65531, -257, -256, -255, -251, -241, -64, -63, -59, -32, -17, -16, -15, -11, -5, -2, -1, 16, 17, 18, 21, 31, 32, 37, 63, 64, 65, 69, 79, 80, 127, 128, 133, 191, 192, 197, 254, 255, 256, 257, 261, 271, 272, 65535, 65536, 65541, 1<<31 - 1, 1 << 31, 1<<32 - 1, 1 << 32, 1<<32 + 5, 1 << 62, math.MaxInt - 15, math.MaxInt - 1, math.MaxInt}

// What an id may be to a roll.
const (
	away  = iota // it is not enrolled, and does not wait
	owing        // it is enrolled
	there        // it is enrolled, and waits
	stray        // it waits, and is not enrolled
	kinds        // how many of these there are
)

// book is a roll told another way: of each id that a set may have, what it is to the roll.
type book [256]int

// with is a book in which some ids are of a kind.
func (b book) with(kind int, ids ...int) book {
	for _, id := range ids {
		b[id] = kind
	}
	return b
}

// all are the ids of some kinds, rising.
func (b book) all(of ...int) []int {
	var l []int
	for id, kind := range b {
		if slices.Contains(of, kind) {
			l = append(l, id)
		}
	}
	return l
}

// kind is what a number is to a book: away, if it is no id.
func (b book) kind(p int) int {
	if p < 0 || p >= len(b) {
		return away
	}
	return b[p]
}

// set has these ids: made bit by bit.
func set(ids ...int) bitset.Set {
	var s bitset.Set
	for _, id := range ids {
		s[id>>6] |= 1 << (id & 63)
	}
	return s
}

// of is a roll of those that are enrolled, and those that wait.
func of(members, at []int) Roll { return Roll{Members: set(members...), At: set(at...)} }

// made is the roll of a book.
func made(b book) Roll { return of(b.all(owing, there), b.all(there, stray)) }

// read is the book of a roll.
func read(r Roll) book {
	var b book
	for id := range b {
		member, at := r.Members[id>>6]>>(id&63)&1, r.At[id>>6]>>(id&63)&1
		b[id] = []int{away, stray, owing, there}[2*member+at]
	}
	return b
}

// procs are the numbers of all processes.
func procs() []int {
	var l []int
	for p := range last + 1 {
		l = append(l, p)
	}
	return l
}

// asked are numbers of all processes, and of none.
func asked() []int { return slices.Concat(procs(), noProcs) }

// but are the numbers of all processes but these.
func but(gone ...int) []int {
	return slices.DeleteFunc(procs(), func(p int) bool { return slices.Contains(gone, p) })
}

// groups are lists of processes: nobody, each one alone, some, all but one, and all.
func groups() [][]int {
	out := [][]int{nil, {0, 15}, {2, 4}, {0, 1}, {14, 15}, {3, 7, 8, 12}, {0, 5, 10, 15}, {1, 3, 5, 7, 9, 11, 13, 15}, {0, 1, 2, 3, 4, 5, 6, 7}, {8, 9, 10, 11, 12, 13, 14, 15}, procs()}
	for p := range last + 1 {
		out = append(out, []int{p}, but(p))
	}
	return out
}

// rolls are rolls that may be: of each of the groups, where nobody waits, one, some, all but one, and all.
func rolls() []Roll {
	var out []Roll
	for _, l := range groups() {
		out = append(out, of(l, nil), of(l, l))
		for i := range l {
			out = append(out, of(l, l[i:i+1]), of(l, l[i:]), of(l, l[:i]), of(l, slices.Concat(l[:i], l[i+1:])))
		}
	}
	return out
}

// wrong are rolls that may not be: each id beyond the processes is a member, waiting or not, alone, and beside members that are processes; and somebody waits who is not enrolled, be it a process or not.
func wrong() []Roll {
	var out []Roll
	for id := last + 1; id < 256; id++ {
		one := []int{id}
		for _, l := range [][]int{nil, {5}, {0, 15}, procs()} {
			more := append(slices.Clone(l), id)
			out = append(out, of(more, nil), of(more, more), of(more, l), of(more, one), of(l, one), of(l, more))
		}
	}
	for _, p := range procs() {
		out = append(out, of(nil, []int{p}), of(but(p), []int{p}), of(but(p), procs()), of([]int{p}, but(p)), of([]int{p}, procs()))
	}
	whole := bitset.Set{math.MaxUint64, math.MaxUint64, math.MaxUint64, math.MaxUint64}
	return append(out, Roll{Members: whole}, Roll{At: whole}, Roll{Members: whole, At: whole}, Roll{Members: set(procs()...), At: whole}, Roll{Members: whole, At: set(procs()...)}, of(nil, procs()))
}

// may is a second reading of when a roll may be.
func may(b book) bool {
	for id, kind := range b {
		if kind == stray || kind != away && id > last {
			return false
		}
	}
	return true
}

// full is a second reading of when a roll is full: somebody is there, and nobody that is enrolled is missing.
func full(b book) bool {
	return may(b) && len(b.all(there)) > 0 && len(b.all(owing)) == 0
}

// judged is a second reading of what Enrol, Resign and Offer ask first.
func judged(b book, p int) api.Errno {
	if !may(b) {
		return api.ErrArg
	}
	if p < 0 || p > last {
		return api.ErrRange
	}
	return api.OK
}

// enrolled is a second reading of what Enrol answers.
func enrolled(b book, p int) (book, api.Errno) {
	if e := judged(b, p); e != api.OK {
		return b, e
	}
	if b[p] != away {
		return b, api.ErrThere
	}
	return b.with(owing, p), api.OK
}

// resigned is a second reading of what Resign answers.
func resigned(b book, p int) (book, api.Errno) {
	if e := judged(b, p); e != api.OK {
		return b, e
	}
	if b[p] == away {
		return b, api.ErrNone
	}
	return b.with(away, p), api.OK
}

// offered is a second reading of what Offer answers.
func offered(b book, p int) (book, api.Errno) {
	if e := judged(b, p); e != api.OK {
		return b, e
	}
	switch b[p] {
	case away:
		return b, api.ErrNone
	case there:
		return b, api.ErrThere
	}
	return b.with(there, p), api.OK
}

// withdrawn is a second reading of what Withdraw answers.
func withdrawn(b book, p int) (book, bool) {
	if !may(b) || b.kind(p) != there {
		return b, false
	}
	return b.with(owing, p), true
}

// fired is a second reading of what Fire answers: with an error, nothing.
func fired(b book) (book, []int, api.Errno) {
	switch {
	case !may(b):
		return book{}, nil, api.ErrArg
	case !full(b):
		return book{}, nil, api.ErrState
	}
	who := b.all(there)
	return b.with(owing, who...), who, api.OK
}

// fine fails, unless Fine answers so.
func fine(t *testing.T, r Roll, want bool) {
	t.Helper()
	if got := Fine(r); got != want {
		t.Errorf("Fine(%x): %v; want %v", r, got, want)
	}
}

// change is one of the calls that change a roll, with its name.
type change struct {
	name string
	do   func(Roll, int) (Roll, api.Errno)
	read func(book, int) (book, api.Errno)
}

// changes are these calls, each beside a second reading.
var changes = []change{{"Enrol", Enrol, enrolled}, {"Resign", Resign, resigned}, {"Offer", Offer, offered}}

// is fails, unless a call answers so.
func (c change) is(t *testing.T, r Roll, p int, want Roll, err api.Errno) {
	t.Helper()
	if got, e := c.do(r, p); got != want || e != err {
		t.Errorf("%s(%x, %d): %x, %d; want %x, %d", c.name, r, p, got, e, want, err)
	}
}

// enrols fails, unless Enrol answers so.
func enrols(t *testing.T, r Roll, p int, want Roll, err api.Errno) {
	t.Helper()
	changes[0].is(t, r, p, want, err)
}

// resigns fails, unless Resign answers so.
func resigns(t *testing.T, r Roll, p int, want Roll, err api.Errno) {
	t.Helper()
	changes[1].is(t, r, p, want, err)
}

// offers fails, unless Offer answers so.
func offers(t *testing.T, r Roll, p int, want Roll, err api.Errno) {
	t.Helper()
	changes[2].is(t, r, p, want, err)
}

// refused fails, unless Enrol, Resign and Offer answer that error, and the roll that they were handed.
func refused(t *testing.T, r Roll, p int, err api.Errno) {
	t.Helper()
	for _, c := range changes {
		c.is(t, r, p, r, err)
	}
}

// withdraws fails, unless Withdraw answers so.
func withdraws(t *testing.T, r Roll, p int, want Roll, is bool) {
	t.Helper()
	if got, was := Withdraw(r, p); got != want || was != is {
		t.Errorf("Withdraw(%x, %d): %x, %v; want %x, %v", r, p, got, was, want, is)
	}
}

// stays fails, unless Withdraw tells that p did not wait, and answers the roll that it was handed.
func stays(t *testing.T, r Roll, p int) {
	t.Helper()
	withdraws(t, r, p, r, false)
}

// fulls fails, unless Full answers so.
func fulls(t *testing.T, r Roll, want bool) {
	t.Helper()
	if got := Full(r); got != want {
		t.Errorf("Full(%x): %v; want %v", r, got, want)
	}
}

// fires fails, unless Fire answers so.
func fires(t *testing.T, r, want Roll, who []int, err api.Errno) {
	t.Helper()
	if got, l, e := Fire(r); got != want || !slices.Equal(l, who) || e != err {
		t.Errorf("Fire(%x): %x, %v, %d; want %x, %v, %d", r, got, l, e, want, who, err)
	}
}

// unfires fails, unless Fire answers that error, and nothing beside it.
func unfires(t *testing.T, r Roll, err api.Errno) {
	t.Helper()
	fires(t, r, Roll{}, nil, err)
}

// every holds all calls of a roll, and of the numbers, against the second readings.
func every(t *testing.T, r Roll, numbers ...int) {
	t.Helper()
	b := read(r)
	fine(t, r, may(b))
	fulls(t, r, full(b))
	after, who, e := fired(b)
	fires(t, r, made(after), who, e)
	for _, p := range numbers {
		for _, c := range changes {
			to, e := c.read(b, p)
			c.is(t, r, p, made(to), e)
		}
		to, was := withdrawn(b, p)
		withdraws(t, r, p, made(to), was)
	}
}

// The chapter's example.
func TestExample(t *testing.T) {
	enrols(t, Roll{}, 2, of([]int{2}, nil), api.OK)
	r, _ := Enrol(Roll{}, 2)
	enrols(t, r, 4, of([]int{2, 4}, nil), api.OK)
	r, _ = Enrol(r, 4)
	offers(t, r, 2, of([]int{2, 4}, []int{2}), api.OK)
	r, _ = Offer(r, 2)
	fulls(t, r, false)
	resigns(t, r, 4, of([]int{2}, []int{2}), api.OK)
	r, _ = Resign(r, 4)
	fulls(t, r, true)
}

// The ids are read and made as the chapter of sets tells them.
func TestBooks(t *testing.T) {
	if got := set(3, 70); got != (bitset.Set{8, 64, 0, 0}) {
		t.Errorf("set of 3 and 70: %x", got)
	}
	for _, r := range slices.Concat(rolls(), wrong()) {
		b := read(r)
		if made(b) != r || !slices.Equal(b.all(owing, there), bitset.List(r.Members)) || !slices.Equal(b.all(there, stray), bitset.List(r.At)) {
			t.Errorf("%x: read as %v", r, b)
		}
	}
}

// P21.1: Fine: nobody, one, some and all sixteen are enrolled; nobody of them waits, some do, and all.
func TestFine(t *testing.T) {
	for _, c := range []struct {
		members, at []int
		want        bool
	}{
		{nil, nil, true}, {[]int{0}, nil, true}, {[]int{15}, nil, true}, {[]int{16}, nil, false}, {[]int{255}, nil, false},
		{[]int{0}, []int{0}, true}, {[]int{15}, []int{15}, true}, {[]int{16}, []int{16}, false}, {[]int{255}, []int{255}, false},
		{nil, []int{0}, false}, {nil, []int{15}, false}, {nil, []int{16}, false}, {nil, []int{255}, false},
		{[]int{2, 4}, []int{2}, true}, {[]int{2, 4}, []int{4}, true}, {[]int{2, 4}, []int{2, 4}, true}, {[]int{2, 4}, []int{3}, false}, {[]int{2, 4}, []int{2, 3}, false}, {[]int{2, 4}, []int{2, 4, 5}, false},
		{[]int{0}, []int{15}, false}, {[]int{15}, []int{0}, false}, {[]int{0}, []int{16}, false}, {[]int{0, 16}, []int{0}, false}, {[]int{0, 64}, nil, false}, {[]int{0}, []int{64}, false},
		{procs(), nil, true}, {procs(), procs(), true}, {procs(), but(15), true}, {but(15), procs(), false}, {but(0), []int{0}, false},
	} {
		fine(t, of(c.members, c.at), c.want)
	}
	for _, r := range rolls() {
		fine(t, r, true)
	}
	for _, r := range wrong() {
		fine(t, r, false)
	}
}

// P21.1: Fine: each id of sets as a member, and as one who waits: alone, and beside each other.
func TestFineIDs(t *testing.T) {
	for id := range 256 {
		fine(t, of([]int{id}, nil), id <= last)
		fine(t, of([]int{id}, []int{id}), id <= last)
		fine(t, of(nil, []int{id}), false)
		for other := range 256 {
			fine(t, of([]int{id}, []int{other}), id == other && id <= last)
			fine(t, of([]int{id, other}, []int{other}), id <= last && other <= last)
		}
	}
}

// P21.1: Enrol: onto a roll on which nobody is, and on which others are; who waits goes on waiting.
func TestEnrol(t *testing.T) {
	for _, c := range []struct {
		r    Roll
		p    int
		want Roll
	}{
		{Roll{}, 0, of([]int{0}, nil)}, {Roll{}, 15, of([]int{15}, nil)}, {Roll{}, 7, of([]int{7}, nil)},
		{of([]int{2}, nil), 4, of([]int{2, 4}, nil)}, {of([]int{4}, nil), 2, of([]int{2, 4}, nil)}, {of([]int{2}, []int{2}), 4, of([]int{2, 4}, []int{2})},
		{of(but(0), but(0)), 0, of(procs(), but(0))}, {of(but(15), but(15)), 15, of(procs(), but(15))},
	} {
		enrols(t, c.r, c.p, c.want, api.OK)
	}
	for _, r := range rolls() {
		b := read(r)
		for _, p := range procs() {
			if b[p] == away {
				enrols(t, r, p, made(b.with(owing, p)), api.OK)
			} else {
				enrols(t, r, p, r, api.ErrThere)
			}
		}
	}
}

// P21.1: Resign: of who waits, and of who does not: the others stay, and go on waiting.
func TestResign(t *testing.T) {
	for _, c := range []struct {
		r    Roll
		p    int
		want Roll
	}{
		{of([]int{0}, nil), 0, Roll{}}, {of([]int{15}, nil), 15, Roll{}}, {of([]int{0}, []int{0}), 0, Roll{}}, {of([]int{15}, []int{15}), 15, Roll{}},
		{of([]int{2, 4}, []int{2}), 4, of([]int{2}, []int{2})}, {of([]int{2, 4}, []int{2}), 2, of([]int{4}, nil)}, {of([]int{2, 4}, []int{2, 4}), 2, of([]int{4}, []int{4})}, {of([]int{2, 4}, nil), 2, of([]int{4}, nil)},
		{of(procs(), procs()), 0, of(but(0), but(0))}, {of(procs(), procs()), 15, of(but(15), but(15))}, {of(procs(), but(15)), 15, of(but(15), but(15))}, {of(procs(), nil), 0, of(but(0), nil)},
	} {
		resigns(t, c.r, c.p, c.want, api.OK)
	}
	for _, r := range rolls() {
		b := read(r)
		for _, p := range procs() {
			if b[p] == away {
				resigns(t, r, p, r, api.ErrNone)
			} else {
				resigns(t, r, p, made(b.with(away, p)), api.OK)
			}
		}
	}
}

// P21.1: Offer: of who is enrolled and does not wait, of who waits already, and of who is not enrolled.
func TestOffer(t *testing.T) {
	for _, c := range []struct {
		r    Roll
		p    int
		want Roll
		err  api.Errno
	}{
		{of([]int{0}, nil), 0, of([]int{0}, []int{0}), api.OK}, {of([]int{15}, nil), 15, of([]int{15}, []int{15}), api.OK},
		{of([]int{0}, []int{0}), 0, of([]int{0}, []int{0}), api.ErrThere}, {of([]int{15}, []int{15}), 15, of([]int{15}, []int{15}), api.ErrThere},
		{Roll{}, 0, Roll{}, api.ErrNone}, {Roll{}, 15, Roll{}, api.ErrNone}, {of([]int{0}, nil), 15, of([]int{0}, nil), api.ErrNone}, {of([]int{15}, []int{15}), 0, of([]int{15}, []int{15}), api.ErrNone},
		{of([]int{2, 4}, []int{2}), 4, of([]int{2, 4}, []int{2, 4}), api.OK}, {of([]int{2, 4}, nil), 2, of([]int{2, 4}, []int{2}), api.OK}, {of([]int{2, 4}, []int{2}), 3, of([]int{2, 4}, []int{2}), api.ErrNone},
		{of(procs(), nil), 15, of(procs(), []int{15}), api.OK}, {of(procs(), but(0)), 0, of(procs(), procs()), api.OK}, {of(procs(), procs()), 7, of(procs(), procs()), api.ErrThere}, {of(but(7), but(7)), 7, of(but(7), but(7)), api.ErrNone},
	} {
		offers(t, c.r, c.p, c.want, c.err)
	}
	for _, r := range rolls() {
		b := read(r)
		for _, p := range b.all(owing) {
			offers(t, r, p, made(b.with(there, p)), api.OK)
		}
	}
}

// P21.1: Enrol, Resign and Offer of what is no process's number: the edges, far ones, and the ends of int.
func TestRange(t *testing.T) {
	for _, no := range noProcs {
		for _, r := range rolls() {
			refused(t, r, no, api.ErrRange)
		}
	}
}

// P21.1: Enrol, Resign and Offer on rolls that may not be: whatever else is wrong, that comes first, and the roll is as it was.
func TestErrors(t *testing.T) {
	for _, r := range wrong() {
		for _, p := range []int{math.MinInt, -1, 0, 1, 5, 14, 15, 16, 17, 64, 255, 256, math.MaxInt} {
			refused(t, r, p, api.ErrArg)
		}
	}
	for _, c := range []struct {
		r Roll
		p int
	}{
		{of([]int{16}, nil), 16}, {of([]int{255}, nil), 255}, {of([]int{64}, nil), 0}, {of(nil, []int{5}), 5}, {of([]int{4}, []int{5}), 4}, {of([]int{4}, []int{5}), 16}, {of([]int{4, 16}, []int{4}), 4}, {of([]int{4, 16}, []int{4}), -1},
	} {
		refused(t, c.r, c.p, api.ErrArg)
	}
}

// P21.2: Withdraw: of who waits, of who is enrolled and does not, of who is not enrolled, and of what is no process; nobody else is touched, and who is enrolled stays so.
func TestWithdraw(t *testing.T) {
	for _, c := range []struct {
		r    Roll
		p    int
		want Roll
	}{
		{of([]int{0}, []int{0}), 0, of([]int{0}, nil)}, {of([]int{15}, []int{15}), 15, of([]int{15}, nil)},
		{of([]int{2, 4}, []int{2}), 2, of([]int{2, 4}, nil)}, {of([]int{2, 4}, []int{2, 4}), 2, of([]int{2, 4}, []int{4})}, {of([]int{2, 4}, []int{2, 4}), 4, of([]int{2, 4}, []int{2})},
		{of(procs(), procs()), 0, of(procs(), but(0))}, {of(procs(), procs()), 15, of(procs(), but(15))},
	} {
		withdraws(t, c.r, c.p, c.want, true)
	}
	for _, r := range rolls() {
		b := read(r)
		for _, p := range asked() {
			if b.kind(p) == there {
				withdraws(t, r, p, made(b.with(owing, p)), true)
			} else {
				stays(t, r, p)
			}
		}
	}
}

// P21.2: Withdraw on rolls that may not be: of each that waits, and of others, the roll is as it was.
func TestWithdrawWrong(t *testing.T) {
	for _, r := range wrong() {
		for _, p := range slices.Concat(read(r).all(there, stray), []int{math.MinInt, -1, 0, 5, 15, 16, 255, 256, math.MaxInt}) {
			stays(t, r, p)
		}
	}
}

// P21.2: Full: nobody is enrolled; nobody of those that are waits, one, all but one, all; and rolls that may not be, be all that are enrolled there or not.
func TestFull(t *testing.T) {
	for _, c := range []struct {
		members, at []int
		want        bool
	}{
		{nil, nil, false}, {[]int{0}, nil, false}, {[]int{0}, []int{0}, true}, {[]int{15}, nil, false}, {[]int{15}, []int{15}, true},
		{[]int{2, 4}, nil, false}, {[]int{2, 4}, []int{2}, false}, {[]int{2, 4}, []int{4}, false}, {[]int{2, 4}, []int{2, 4}, true},
		{procs(), nil, false}, {procs(), but(0), false}, {procs(), but(15), false}, {procs(), []int{7}, false}, {procs(), procs(), true}, {but(7), but(7), true},
		{[]int{16}, []int{16}, false}, {[]int{2, 255}, []int{2, 255}, false}, {[]int{2, 64}, []int{2}, false}, {nil, []int{2}, false}, {[]int{2}, []int{2, 4}, false}, {[]int{2}, []int{4}, false}, {[]int{2}, []int{2, 16}, false},
	} {
		fulls(t, of(c.members, c.at), c.want)
	}
	for _, l := range groups() {
		fulls(t, of(l, nil), false)
		fulls(t, of(l, l), len(l) > 0)
		for i, p := range l {
			missing := slices.Concat(l[:i], l[i+1:])
			fulls(t, of(l, missing), false)
			fulls(t, of(l, []int{p}), len(l) == 1)
		}
	}
	for _, r := range wrong() {
		fulls(t, r, false)
	}
}

// P21.3: Fire: all that waited are told, rising, in whatever order they came; they stay enrolled, and nobody waits.
func TestFire(t *testing.T) {
	for _, l := range groups() {
		if len(l) > 0 {
			fires(t, of(l, l), of(l, nil), l, api.OK)
		}
	}
	for seed := range int64(50) {
		r := of(procs(), nil)
		for _, p := range rand.New(rand.NewSource(seed)).Perm(last + 1) {
			unfires(t, r, api.ErrState)
			r, _ = Offer(r, p)
		}
		fires(t, r, of(procs(), nil), procs(), api.OK)
	}
}

// P21.3: Fire: where nobody is enrolled, or somebody is missing, and of rolls that may not be, be all that are enrolled there or not: beside the error there is nothing.
func TestFireErrors(t *testing.T) {
	unfires(t, Roll{}, api.ErrState)
	for _, r := range rolls() {
		if b := read(r); len(b.all(there)) == 0 || len(b.all(owing)) > 0 {
			unfires(t, r, api.ErrState)
		}
	}
	for _, r := range wrong() {
		unfires(t, r, api.ErrArg)
	}
}

// P21.3: what Fire tells is the caller's own: who writes to it changes no other answer.
func TestFireAnew(t *testing.T) {
	r := of([]int{2, 4, 9}, []int{2, 4, 9})
	_, a, _ := Fire(r)
	_, b, _ := Fire(r)
	for i := range a {
		a[i] = -7
	}
	_ = append(a, -8)
	if !slices.Equal(b, []int{2, 4, 9}) {
		t.Errorf("another answer: %v", b)
	}
	fires(t, r, of([]int{2, 4, 9}, nil), []int{2, 4, 9}, api.OK)
}

// P21.1, P21.2, P21.3: all rolls of a few ids, each of which is away, owing, there or a stray: held against second readings of the chapter.
func TestEvery(t *testing.T) {
	few := []int{0, 1, 8, 15, 16, 255}
	numbers := slices.Concat([]int{math.MinInt, -1, 2, 14, 17, 64, 256, math.MaxInt}, few)
	for n := range 1 << (2 * len(few)) {
		var b book
		for i, id := range few {
			b[id] = n >> (2 * i) % kinds
		}
		every(t, made(b), numbers...)
	}
}

// P21.1, P21.2, P21.3: each of all groups of processes is enrolled: nobody of it waits, all but one, and all.
func TestGroups(t *testing.T) {
	for n := range uint64(1) << (last + 1) {
		r := Roll{Members: bitset.Set{n}, At: bitset.Set{n}}
		b := read(r)
		who := b.all(there)
		fine(t, r, true)
		fulls(t, r, n != 0)
		if n != 0 {
			fires(t, r, Roll{Members: r.Members}, who, api.OK)
			fulls(t, Roll{Members: r.Members}, false)
		}
		for _, p := range who {
			missing := Roll{Members: r.Members, At: bitset.Set{n &^ (1 << p)}}
			fulls(t, missing, false)
			withdraws(t, r, p, missing, true)
			offers(t, missing, p, r, api.OK)
			resigns(t, r, p, Roll{Members: missing.At, At: missing.At}, api.OK)
			resigns(t, missing, p, Roll{Members: missing.At, At: missing.At}, api.OK)
			enrols(t, Roll{Members: missing.At, At: missing.At}, p, missing, api.OK)
		}
	}
}

// P21.1, P21.2, P21.3: rolls by chance, most of which may be, and some with an id that spoils them; by numbers of all sizes.
func TestChance(t *testing.T) {
	r := rand.New(rand.NewSource(211))
	for range 4000 {
		var b book
		for p := range last + 1 {
			b[p] = []int{away, owing, there}[r.Intn(3)]
		}
		if r.Intn(3) == 0 {
			b = b.with(there, b.all(owing)...)
		}
		if r.Intn(4) == 0 {
			b[r.Intn(len(b))] = r.Intn(kinds)
		}
		every(t, made(b), r.Intn(last+1), r.Intn(last+5)-2, int(r.Uint64())>>r.Intn(64), noProcs[r.Intn(len(noProcs))])
	}
	for range 1000 {
		every(t, Roll{Members: bitset.Set{r.Uint64(), r.Uint64() & r.Uint64(), 0, 0}, At: bitset.Set{r.Uint64(), 0, 0, r.Uint64()}}, procs()...)
	}
}

// watch is a roll beside what was done to it: who has enrolled and not resigned, and who has offered since.
type watch struct {
	r       Roll
	belongs map[int]bool
	came    map[int]bool
}

// do makes one call of a run, and notes it; who is told by Fire is held against the notes.
func (w *watch) do(t *testing.T, call, p int) {
	t.Helper()
	var e api.Errno
	switch call {
	case 0:
		if w.r, e = Enrol(w.r, p); e == api.OK {
			w.belongs[p] = true
		}
	case 1:
		if w.r, e = Resign(w.r, p); e == api.OK {
			delete(w.belongs, p)
			delete(w.came, p)
		}
	case 2:
		if w.r, e = Offer(w.r, p); e == api.OK {
			w.came[p] = true
		}
	case 3:
		var was bool
		if w.r, was = Withdraw(w.r, p); was != w.came[p] {
			t.Fatalf("Withdraw of %d: %v", p, was)
		}
		delete(w.came, p)
	case 4:
		w.fire(t)
	}
	w.holds(t)
}

// fire fires the roll: it may just if nobody that belongs is missing, and all of these are told, rising, belong as before, and have to come again.
func (w *watch) fire(t *testing.T) {
	t.Helper()
	after, who, e := Fire(w.r)
	if !w.whole() {
		if e != api.ErrState || who != nil || after != (Roll{}) {
			t.Fatalf("Fire(%x): %x, %v, %d", w.r, after, who, e)
		}
		return
	}
	if e != api.OK || !slices.IsSorted(who) || len(who) != len(w.belongs) || after.Members != w.r.Members || after.At != (bitset.Set{}) {
		t.Fatalf("Fire(%x): %x, %v, %d", w.r, after, who, e)
	}
	for _, p := range who {
		if !w.belongs[p] || !w.came[p] {
			t.Fatalf("Fire(%x): %d is told", w.r, p)
		}
		delete(w.came, p) // so that one who is told twice is found out
	}
	w.r = after
}

// whole tells whether somebody belongs, and none of those that do is missing.
func (w *watch) whole() bool {
	for p := range w.belongs {
		if !w.came[p] {
			return false
		}
	}
	return len(w.belongs) > 0
}

// holds fails, unless the roll tells just what was noted.
func (w *watch) holds(t *testing.T) {
	t.Helper()
	fine(t, w.r, true)
	fulls(t, w.r, w.whole())
	for p := range last + 1 {
		if bitset.Has(w.r.Members, p) != w.belongs[p] || bitset.Has(w.r.At, p) != w.came[p] {
			t.Fatalf("%x: %d belongs: %v, came: %v", w.r, p, w.belongs[p], w.came[p])
		}
	}
}

// begin is a roll on which nobody is, and nothing was done to.
func begin() *watch { return &watch{belongs: map[int]bool{}, came: map[int]bool{}} }

// P21.4: all runs of five calls of two processes.
func TestShortRuns(t *testing.T) {
	const calls = 9 // four of each process, and Fire
	for n := range calls * calls * calls * calls * calls {
		w := begin()
		for range 5 {
			call := n % calls
			n /= calls
			if call == calls-1 {
				w.do(t, 4, 0)
			} else {
				w.do(t, call/2, []int{0, 15}[call%2])
			}
		}
	}
}

// P21.4: long runs by chance, of few and of many processes: full just if nobody that is enrolled is missing, and who resigned is not counted.
func TestRuns(t *testing.T) {
	r := rand.New(rand.NewSource(214))
	for _, many := range []int{1, 2, 3, 5, 16} {
		for range 40 {
			w, who := begin(), r.Perm(last + 1)[:many]
			for range 200 {
				call := []int{0, 0, 1, 2, 2, 2, 2, 3, 4, 4}[r.Intn(10)]
				w.do(t, call, who[r.Intn(many)])
			}
		}
	}
}

// P21.4: round by round all that are enrolled come, in all sorts of orders, and go on together; they stay enrolled, round by round.
func TestRounds(t *testing.T) {
	r := rand.New(rand.NewSource(2140))
	for _, l := range groups() {
		w := begin()
		for _, p := range l {
			w.do(t, 0, p)
		}
		for range 5 {
			for _, i := range r.Perm(len(l)) {
				w.do(t, 4, 0)
				w.do(t, 2, l[i])
			}
			fulls(t, w.r, len(l) > 0)
			w.do(t, 4, 0)
			if w.r != of(l, nil) {
				t.Fatalf("%v, behind a round: %x", l, w.r)
			}
		}
	}
}

// P21.4: the last ones that are missing resign, one by one: the roll is full once nobody is missing, be somebody left; and who comes back is counted again.
func TestResigned(t *testing.T) {
	for many := range last + 2 {
		w := begin()
		for p := range last + 1 {
			w.do(t, 0, p)
		}
		for p := range many {
			w.do(t, 2, p)
		}
		for p := many; p <= last; p++ {
			fulls(t, w.r, false)
			w.do(t, 1, p)
		}
		fulls(t, w.r, many > 0)
		if many > 0 && many <= last {
			w.do(t, 0, many)
			fulls(t, w.r, false)
			w.do(t, 2, many)
			fulls(t, w.r, true)
		}
		w.do(t, 4, 0)
		if many == 0 && w.r != (Roll{}) {
			t.Errorf("all have resigned: %x", w.r)
		}
	}
}

// P21.4: who waits and resigns is not told by Fire, nor when it has enrolled again.
func TestResignedWaiter(t *testing.T) {
	w := begin()
	for _, p := range []int{0, 7, 15} {
		w.do(t, 0, p)
		w.do(t, 2, p)
	}
	w.do(t, 1, 7)
	fires(t, w.r, of([]int{0, 15}, nil), []int{0, 15}, api.OK)
	w.do(t, 0, 7)
	fulls(t, w.r, false)
	unfires(t, w.r, api.ErrState)
	w.do(t, 2, 7)
	fires(t, w.r, of([]int{0, 7, 15}, nil), []int{0, 7, 15}, api.OK)
}
