package conf

import (
	"fmt"
	"math"
	"math/rand"
	"slices"
	"strings"
	"testing"

	"becket/api"
	"becket/barrier"
	"becket/channel"
	"becket/opcode"
	"becket/prog"
)

// The parts, as the chapter counts them, and the ends of the words.
const (
	progs   = 1
	chans   = 2
	bars    = 3
	buckets = 4
	starts  = 5
	low     = -1 << 31
	high    = 1<<31 - 1
)

// far are numbers that are none of anything that stands in a byte, or in two: the ends of int, and such as may be, when they are cut to fewer bits.
var far = []int{math.MinInt, math.MinInt + 1, math.MinInt + 3, -1 << 62, -1 << 40, -1<<32 - 1, -1 << 32, -1<<32 + 1, -1<<32 + 3, -65536, -65535, -256, -255, -253, -2, -1, 65536, 65537, 65539, 1 << 31, 1<<32 - 1, 1 << 32, 1<<32 + 1, 1<<32 + 3, 1 << 40, 1 << 62, math.MaxInt - 1, math.MaxInt}

// noWords are numbers that are no words.
var noWords = []int{math.MinInt, math.MinInt + 1, -1 << 62, -1 << 40, -1<<32 - 1, -1 << 32, -1<<32 + 7, low - 2, low - 1, high + 1, high + 2, 1<<32 - 1, 1 << 32, 1<<32 + 7, 1 << 40, 1 << 62, math.MaxInt - 1, math.MaxInt}

// Instructions, and programs that may be.
var (
	nop  = api.Instr{}
	halt = api.Instr{Op: opcode.Halt}
	skip = api.Instr{Op: opcode.Gskip, C: 8}
	emit = api.Instr{Op: opcode.Emit, A: 7}
	jump = api.Instr{Op: opcode.Jmp}

	one  = []api.Instr{halt}
	two  = []api.Instr{emit, halt}
	alts = []api.Instr{{Op: opcode.Alt, A: 1, B: 2, C: 2}, skip, {Op: opcode.Gin, A: 7, B: 7, C: 3}, {Op: opcode.Set, A: 2, B: 255, C: 254}, {Op: opcode.Spawn, A: 1, B: 7, C: 2}, {Op: opcode.Jz, A: 1, B: 6}}
	long = append(slices.Repeat([]api.Instr{nop}, 63), jump)
)

// wrongProgs are programs that may not be, with the error of each.
var wrongProgs = []struct {
	l []api.Instr
	e api.Errno
}{
	{nil, api.ErrEmpty},
	{[]api.Instr{}, api.ErrEmpty},
	{slices.Repeat(one, 65), api.ErrMany},
	{slices.Repeat(one, 256), api.ErrMany},
	{slices.Repeat(one, 257), api.ErrMany},
	{[]api.Instr{{Op: opcode.Many}}, api.ErrCode},
	{[]api.Instr{halt, {Op: 255, A: 255, B: 255, C: 255}}, api.ErrCode},
	{[]api.Instr{halt, {Op: opcode.Halt, C: 1}}, api.ErrForm},
	{[]api.Instr{skip}, api.ErrForm},
	{[]api.Instr{{Op: opcode.Alt, C: 1}, halt}, api.ErrForm},
	{[]api.Instr{{Op: opcode.Jmp, A: 2}, {Op: opcode.Alt, C: 1}, skip}, api.ErrForm},
	{[]api.Instr{{Op: opcode.Emit, A: 8}}, api.ErrRange},
	{[]api.Instr{halt, halt, {Op: opcode.Jmp, A: 4}}, api.ErrRange},
}

// wrongChans are channels that may not be, with the error of each.
func wrongChans() map[api.Chan]api.Errno {
	l := map[api.Chan]api.Errno{
		{Kind: 4, Room: 9, In: 256, Out: 256}:   api.ErrKind,
		{Kind: -1, Room: -1, In: -1, Out: -1}:   api.ErrKind,
		{Kind: 3, Room: 9, In: 256, Out: 256}:   api.ErrRange,
		{Kind: 0, Room: -1, In: -1, Out: -1}:    api.ErrRange,
		{Kind: 2, Room: 8, In: 255, Out: 256}:   api.ErrRange,
		{Kind: 1, Room: 8, In: 256, Out: 255}:   api.ErrRange,
		{Kind: 1, Room: 9, In: 255, Out: 255}:   api.ErrRange,
		{Kind: 255, Room: 255, In: 7, Out: 255}: api.ErrKind,
	}
	for _, n := range append(far, 4, 5, 255, 256, 257, 259) {
		l[api.Chan{Kind: n, Room: 1, In: 2, Out: 3}] = api.ErrKind
	}
	for _, n := range append(far, 9, 10, 255, 256, 257, 264) {
		l[api.Chan{Kind: 1, Room: n, In: 2, Out: 3}] = api.ErrRange
	}
	for _, n := range append(far, 256, 257, 300, 511, 512) {
		l[api.Chan{Kind: 1, In: n, Out: 3}] = api.ErrRange
		l[api.Chan{Kind: 1, In: 2, Out: n}] = api.ErrRange
	}
	return l
}

// wrongBars are barriers that may not be.
func wrongBars() []api.Barrier {
	var l []api.Barrier
	for _, n := range append(far, 0, 131071) {
		l = append(l, api.Barrier{Limit: n}, api.Barrier{Alting: true, Limit: n})
	}
	return l
}

// wrongStarts are starts that may not be, where there are so many programs and barriers.
func wrongStarts(manyProgs, manyBars int) []api.Start {
	var l []api.Start
	for _, n := range append(far, manyProgs, manyProgs+1, 8, 9, 255, 256, 257) {
		l = append(l, api.Start{Prog: n}, api.Start{Prog: n, Arg: 5, Bars: 1<<manyBars - 1})
	}
	for _, n := range noWords {
		l = append(l, api.Start{Arg: n}, api.Start{Prog: manyProgs - 1, Arg: n})
	}
	for _, n := range append(far, 1<<manyBars, 1<<manyBars+1, 256, 257, 511) {
		l = append(l, api.Start{Bars: n}, api.Start{Prog: manyProgs - 1, Arg: -5, Bars: n})
	}
	return append(l, api.Start{Prog: -1, Arg: high + 1, Bars: -1}, api.Start{Prog: manyProgs, Arg: low - 1, Bars: 1 << manyBars})
}

// times is a list of the same thing so many times.
func times[T any](many int, x T) []T { return slices.Repeat([]T{x}, many) }

// with is a list of its own with another thing at a place.
func with[T any](l []T, at int, x T) []T {
	own := slices.Clone(l)
	own[at] = x
	return own
}

// least is the least that may be: the chapter's example.
func least() api.Config {
	return api.Config{Progs: [][]api.Instr{one}, Starts: []api.Start{{}}}
}

// leastText are its bytes.
const leastText = "\x01\x01\x01\x00\x00\x00\x00\x00\x00\x01\x00\x00\x00\x00\x00\x00"

// pairs has two of each part.
func pairs() api.Config {
	return api.Config{
		Progs:   [][]api.Instr{one, two},
		Chans:   []api.Chan{{Kind: 0, Room: 0, In: 4, Out: 9}, {Kind: 1, Room: 8, In: 255, Out: 0}},
		Bars:    []api.Barrier{{Alting: true, Limit: 258}, {Limit: 9}},
		Buckets: 4,
		Starts:  []api.Start{{Prog: 1, Arg: -2, Bars: 3}, {Prog: 0, Arg: 16909060, Bars: 0}},
	}
}

// pairsText are its bytes, part by part.
const pairsText = "\x02" + "\x01\x01\x00\x00\x00" + "\x02\x1b\x07\x00\x00\x01\x00\x00\x00" +
	"\x02" + "\x00\x00\x04\x09" + "\x01\x08\xff\x00" +
	"\x02" + "\x01\x01\x02" + "\x00\x00\x09" +
	"\x04" +
	"\x02" + "\x01\xff\xff\xff\xfe\x03" + "\x00\x01\x02\x03\x04\x00"

// full has as many of each part as there may be.
func full() api.Config {
	c := api.Config{Progs: [][]api.Instr{one, two, alts, long, one, {jump}, two, alts}, Buckets: 4}
	for i := range 8 {
		c.Chans = append(c.Chans, api.Chan{Kind: i % 4, Room: 8 - i, In: 255 - 3*i, Out: 5 * i})
		c.Bars = append(c.Bars, api.Barrier{Alting: i%3 == 0, Limit: 65535 - 8191*i})
	}
	for i := range 16 {
		c.Starts = append(c.Starts, api.Start{Prog: i % 8, Arg: low + 286331153*i, Bars: 255 - 17*i})
	}
	return c
}

// good are such as may be, of many kinds.
func good() []api.Config {
	l := []api.Config{
		least(), pairs(), full(),
		{Progs: [][]api.Instr{one}, Chans: []api.Chan{}, Bars: []api.Barrier{}, Starts: []api.Start{{}}},
		{Progs: [][]api.Instr{two}, Chans: times(8, api.Chan{Kind: 3, Room: 8, In: 255, Out: 255}), Starts: times(16, api.Start{Arg: high})},
		{Progs: times(8, long), Bars: times(8, api.Barrier{Alting: true, Limit: 65535}), Buckets: 1, Starts: []api.Start{{Prog: 7, Arg: low, Bars: 255}}},
		{Progs: [][]api.Instr{alts, one}, Chans: []api.Chan{{Kind: 2}}, Bars: []api.Barrier{{Limit: 1}}, Buckets: 3, Starts: []api.Start{{Prog: 1, Arg: -1, Bars: 1}}},
	}
	for many := 1; many <= 8; many++ {
		c := full()
		c.Progs = c.Progs[:many]
		for i := range c.Starts {
			c.Starts[i].Prog %= many
		}
		l = append(l, c)
	}
	for many := range 9 {
		c, d := full(), full()
		c.Chans = c.Chans[:many]
		d.Bars = d.Bars[:many]
		for i := range d.Starts {
			d.Starts[i].Bars %= 1 << many
		}
		l = append(l, c, d)
	}
	for many := range 5 {
		c := pairs()
		c.Buckets = many
		l = append(l, c)
	}
	for many := 1; many <= 16; many++ {
		c := full()
		c.Starts = c.Starts[:many]
		l = append(l, c)
	}
	return l
}

// byChance is something that may be, by chance.
func byChance(r *rand.Rand) api.Config {
	programs := [][]api.Instr{one, two, alts, {jump}, {nop, halt}, long}
	words := []int{low, low + 1, -65536, -256, -255, -1, 0, 1, 127, 128, 255, 256, 65535, 65536, 1 << 24, high - 1, high}
	c := api.Config{Buckets: r.Intn(5)}
	for range 1 + r.Intn(8) {
		c.Progs = append(c.Progs, programs[r.Intn(len(programs))])
	}
	for range r.Intn(9) {
		c.Chans = append(c.Chans, api.Chan{Kind: r.Intn(4), Room: r.Intn(9), In: r.Intn(256), Out: r.Intn(256)})
	}
	for range r.Intn(9) {
		c.Bars = append(c.Bars, api.Barrier{Alting: r.Intn(2) == 0, Limit: 1 + r.Intn(65535)>>r.Intn(16)})
	}
	for range 1 + r.Intn(16) {
		x := api.Start{Prog: r.Intn(len(c.Progs)), Arg: words[r.Intn(len(words))], Bars: r.Intn(1 << len(c.Bars))}
		if r.Intn(2) == 0 {
			x.Arg = low + r.Intn(1<<32)
		}
		c.Starts = append(c.Starts, x)
	}
	return c
}

// checked is what the chapter asks of Check.
func checked(c api.Config) (Place, api.Errno) {
	if len(c.Progs) == 0 {
		return Place{progs, 0}, api.ErrEmpty
	}
	if len(c.Progs) > 8 {
		return Place{progs, 0}, api.ErrMany
	}
	for i, l := range c.Progs {
		if _, e := prog.Check(l); e != api.OK {
			return Place{progs, i}, e
		}
	}
	if len(c.Chans) > 8 {
		return Place{chans, 0}, api.ErrMany
	}
	for i, x := range c.Chans {
		if e := channel.Check(x); e != api.OK {
			return Place{chans, i}, e
		}
	}
	if len(c.Bars) > 8 {
		return Place{bars, 0}, api.ErrMany
	}
	for i, x := range c.Bars {
		if e := barrier.Check(x); e != api.OK {
			return Place{bars, i}, e
		}
	}
	if c.Buckets < 0 || c.Buckets > 4 {
		return Place{buckets, 0}, api.ErrRange
	}
	if len(c.Starts) == 0 {
		return Place{starts, 0}, api.ErrEmpty
	}
	if len(c.Starts) > 16 {
		return Place{starts, 0}, api.ErrMany
	}
	for i, x := range c.Starts {
		masks := []int{1, 2, 4, 8, 16, 32, 64, 128, 256}
		if x.Prog < 0 || x.Prog >= len(c.Progs) || x.Arg < low || x.Arg > high || x.Bars < 0 || x.Bars >= masks[len(c.Bars)] {
			return Place{starts, i}, api.ErrRange
		}
	}
	return Place{}, api.OK
}

// written is what the chapter asks of Bytes, of what may be.
func written(c api.Config) string {
	b := []byte{byte(len(c.Progs))}
	for _, l := range c.Progs {
		b = append(b, byte(len(l)))
		for _, x := range l {
			b = append(b, x.Op, x.A, x.B, x.C)
		}
	}
	b = append(b, byte(len(c.Chans)))
	for _, x := range c.Chans {
		b = append(b, byte(x.Kind), byte(x.Room), byte(x.In), byte(x.Out))
	}
	b = append(b, byte(len(c.Bars)))
	for _, x := range c.Bars {
		b = append(b, 0, byte(x.Limit/256), byte(x.Limit%256))
		if x.Alting {
			b[len(b)-3] = 1
		}
	}
	b = append(b, byte(c.Buckets), byte(len(c.Starts)))
	for _, x := range c.Starts {
		n := (x.Arg + 1<<32) % (1 << 32)
		b = append(b, byte(x.Prog), byte(n/(1<<24)), byte(n/(1<<16)%256), byte(n/256%256), byte(n%256), byte(x.Bars))
	}
	return string(b)
}

// read is what the chapter asks of Read: whatever is first wrong ends it at once.
func read(s string, at int) (c api.Config, behind int, err api.Errno) {
	if at < 0 || at > len(s) {
		return api.Config{}, 0, api.ErrRange
	}
	defer func() {
		if x := recover(); x != nil {
			c, behind, err = api.Config{}, 0, x.(api.Errno)
		}
	}()
	ask := func(fine bool, e api.Errno) {
		if !fine {
			panic(e)
		}
	}
	take := func(n int) []int {
		ask(at+n <= len(s), api.ErrEnd)
		var l []int
		for range n {
			l = append(l, int(s[at]))
			at++
		}
		return l
	}
	count := func(least, most int) int {
		n := take(1)[0]
		ask(n >= least, api.ErrEmpty)
		ask(n <= most, api.ErrMany)
		return n
	}
	for range count(1, 8) {
		l, end, e := prog.Read(s, at)
		ask(e == api.OK, e)
		c.Progs, at = append(c.Progs, l), end
	}
	for range count(0, 8) {
		b := take(4)
		x := api.Chan{Kind: b[0], Room: b[1], In: b[2], Out: b[3]}
		ask(x.Kind < 4, api.ErrKind)
		ask(x.Room < 9, api.ErrRange)
		c.Chans = append(c.Chans, x)
	}
	for range count(0, 8) {
		b := take(3)
		ask(b[0] < 2, api.ErrForm)
		ask(b[1]+b[2] > 0, api.ErrRange)
		c.Bars = append(c.Bars, api.Barrier{Alting: b[0] == 1, Limit: 256*b[1] + b[2]})
	}
	c.Buckets = take(1)[0]
	ask(c.Buckets < 5, api.ErrRange)
	for range count(1, 16) {
		b := take(6)
		ask(b[0] < len(c.Progs), api.ErrRange)
		ask(b[5] < []int{1, 2, 4, 8, 16, 32, 64, 128, 256}[len(c.Bars)], api.ErrRange)
		n := ((b[1]*256+b[2])*256+b[3])*256 + b[4]
		if b[1] > 127 {
			n -= 1 << 32
		}
		c.Starts = append(c.Starts, api.Start{Prog: b[0], Arg: n, Bars: b[5]})
	}
	return c, at, api.OK
}

// alike tells whether two are the same: a list that is nil is an empty one.
func alike(a, b api.Config) bool {
	return slices.EqualFunc(a.Progs, b.Progs, func(x, y []api.Instr) bool { return slices.Equal(x, y) }) && slices.Equal(a.Chans, b.Chans) &&
		slices.Equal(a.Bars, b.Bars) && a.Buckets == b.Buckets && slices.Equal(a.Starts, b.Starts)
}

// shielded is a list within longer memory, and what tells whether all of that is as it was.
func shielded[T comparable](l []T, odd T) ([]T, func() bool) {
	memory := slices.Concat([]T{odd}, l, []T{odd, odd})
	before := slices.Clone(memory)
	return memory[1 : 1+len(l)], func() bool { return slices.Equal(memory, before) }
}

// kept is something in longer memory of its own, and what fails, unless all of that is as it was.
func kept(t *testing.T, c api.Config) (api.Config, func()) {
	t.Helper()
	var whole [4]func() bool
	var own api.Config
	memory := times(len(c.Progs)+3, two)
	var programs []func() bool
	for i, l := range c.Progs {
		l, is := shielded(l, emit)
		memory[1+i], programs = l, append(programs, is)
	}
	before := slices.Clone(memory)
	own.Progs = memory[1 : 1+len(c.Progs)]
	whole[0] = func() bool {
		return slices.EqualFunc(memory, before, func(x, y []api.Instr) bool { return len(x) == len(y) && (len(x) == 0 || &x[0] == &y[0]) })
	}
	own.Chans, whole[1] = shielded(c.Chans, api.Chan{Kind: 3, In: 71})
	own.Bars, whole[2] = shielded(c.Bars, api.Barrier{Limit: 71})
	own.Starts, whole[3] = shielded(c.Starts, api.Start{Arg: 71})
	own.Buckets = c.Buckets
	return own, func() {
		t.Helper()
		for i, is := range slices.Concat(whole[:], programs) {
			if !is() {
				t.Errorf("it has written to what was handed in: memory %d of %s", i, shown(c))
			}
		}
	}
}

// copied is something in memory of its own.
func copied(c api.Config) api.Config {
	own := api.Config{Chans: slices.Clone(c.Chans), Bars: slices.Clone(c.Bars), Buckets: c.Buckets, Starts: slices.Clone(c.Starts)}
	for _, l := range c.Progs {
		own.Progs = append(own.Progs, slices.Clone(l))
	}
	return own
}

// shown is the beginning of something's text.
func shown(x any) string { return fmt.Sprintf("%.400s", fmt.Sprintf("%+v", x)) }

// checks fails, unless Check answers so; if that is an error, Bytes is to be empty.
func checks(t *testing.T, c api.Config, part, at int, err api.Errno) {
	t.Helper()
	own, check := kept(t, c)
	for _, x := range []api.Config{c, own, own} {
		if got, e := Check(x); got != (Place{part, at}) || e != err {
			t.Errorf("Check(%s): %+v, %d; want %d %d, %d", shown(x), got, e, part, at, err)
		}
		if err == api.OK {
			continue
		}
		if s := Bytes(x); s != "" {
			t.Errorf("Bytes(%s): %.400q", shown(x), s)
		}
	}
	check()
}

// fine fails, unless Check takes something.
func fine(t *testing.T, c api.Config) {
	t.Helper()
	checks(t, c, 0, 0, api.OK)
}

// writes fails, unless Check takes something, and its bytes are these.
func writes(t *testing.T, c api.Config, want string) {
	t.Helper()
	fine(t, c)
	own, check := kept(t, c)
	for _, x := range []api.Config{c, own, own} {
		if got := Bytes(x); got != want {
			t.Errorf("Bytes(%s): %.400q; want %.400q", shown(x), got, want)
		}
	}
	check()
}

// spoil writes over all that was answered, and behind it, as far as there is memory.
func spoil(c api.Config) {
	for _, l := range c.Progs {
		clear(l[:cap(l)])
	}
	clear(c.Progs[:cap(c.Progs)])
	clear(c.Chans[:cap(c.Chans)])
	clear(c.Bars[:cap(c.Bars)])
	clear(c.Starts[:cap(c.Starts)])
}

// reads fails, unless Read answers so, each time in new memory.
func reads(t *testing.T, s string, at int, want api.Config, behind int, err api.Errno) {
	t.Helper()
	for range 2 {
		got, n, e := Read(s, at)
		if !alike(got, want) || n != behind || e != err {
			t.Errorf("Read(%.400q of %d, %d): %s, %d, %d; want %s, %d, %d", s, len(s), at, shown(got), n, e, shown(want), behind, err)
		}
		spoil(got)
	}
}

// refuses fails, unless Read answers this error, and nothing else.
func refuses(t *testing.T, s string, at int, err api.Errno) {
	t.Helper()
	reads(t, s, at, api.Config{}, 0, err)
}

// readsAnew fails, unless Read answers what the chapter asks for; and the bytes of what it reads are to be just those that it has read. It tells whether there was something.
func readsAnew(t *testing.T, s string, at int) bool {
	t.Helper()
	want, behind, err := read(s, at)
	reads(t, s, at, want, behind, err)
	if err != api.OK {
		return false
	}
	writes(t, want, s[at:behind])
	return true
}

// holds fails, unless all that is told of something is what the chapter asks for.
func holds(t *testing.T, c api.Config) {
	t.Helper()
	p, err := checked(c)
	checks(t, c, p.Part, p.At, err)
	if err != api.OK {
		return
	}
	s := written(c)
	writes(t, c, s)
	reads(t, s, 0, c, len(s), api.OK)
}

// sames fails, unless Same answers so, both ways round.
func sames(t *testing.T, a, b api.Config, want bool) {
	t.Helper()
	x, first := kept(t, a)
	y, second := kept(t, b)
	for _, l := range [][2]api.Config{{a, b}, {b, a}, {x, y}, {y, x}, {x, b}, {y, a}} {
		if got := Same(l[0], l[1]); got != want {
			t.Errorf("Same(%s, %s): %v", shown(l[0]), shown(l[1]), got)
		}
	}
	first()
	second()
}

// The chapter's example.
func TestExamples(t *testing.T) {
	writes(t, least(), "\x01\x01\x01\x00\x00\x00\x00\x00\x00\x01\x00\x00\x00\x00\x00\x00")
	reads(t, "\x01\x01\x01\x00\x00\x00\x00\x00\x00\x01\x00\x00\x00\x00\x00\x00", 0, least(), 16, api.OK)
}

// The parts are those numbers.
func TestParts(t *testing.T) {
	if Progs != progs || Chans != chans || Bars != bars || Buckets != buckets || Starts != starts {
		t.Errorf("the parts: %d, %d, %d, %d, %d", Progs, Chans, Bars, Buckets, Starts)
	}
}

// P32.1, P32.2: one with two of each part, byte by byte.
func TestPairs(t *testing.T) {
	writes(t, pairs(), pairsText)
	reads(t, pairsText, 0, pairs(), len(pairsText), api.OK)
}

// P32.1, P32.2: what may be, of many kinds.
func TestGood(t *testing.T) {
	for _, c := range good() {
		fine(t, c)
		holds(t, c)
	}
}

// P32.1: no programs, nil or just empty, and more than eight, whatever these are.
func TestProgsNumber(t *testing.T) {
	for _, l := range [][]api.Instr{one, two, alts, long} {
		for many := range 20 {
			c := least()
			c.Progs = times(many, l)
			switch {
			case many == 0:
				checks(t, c, progs, 0, api.ErrEmpty)
			case many <= 8:
				fine(t, c)
			default:
				checks(t, c, progs, 0, api.ErrMany)
			}
		}
	}
	c := full()
	c.Progs = nil
	checks(t, c, progs, 0, api.ErrEmpty)
	for _, many := range []int{9, 10, 16, 255, 256, 257, 258, 264, 512, 513, 65536, 65537} {
		c.Progs = times(many, one)
		checks(t, c, progs, 0, api.ErrMany)
	}
	for _, x := range wrongProgs {
		c.Progs = times(9, x.l)
		checks(t, c, progs, 0, api.ErrMany)
		c.Progs = with(times(9, one), 4, x.l)
		checks(t, c, progs, 0, api.ErrMany)
	}
}

// P32.1: a program that may not be, at each place, with each of its errors.
func TestProgsWrong(t *testing.T) {
	for _, x := range wrongProgs {
		for many := 1; many <= 8; many++ {
			for at := range many {
				c := full()
				for i := range c.Starts {
					c.Starts[i].Prog %= many
				}
				c.Progs = with(c.Progs[:many], at, x.l)
				checks(t, c, progs, at, x.e)
				for next := at + 1; next < many; next++ { // the first of two counts
					for _, y := range wrongProgs {
						c.Progs = with(c.Progs, next, y.l)
						checks(t, c, progs, at, x.e)
					}
				}
			}
		}
	}
}

// P32.1: no channels, eight, and more than that, whatever these are.
func TestChansNumber(t *testing.T) {
	for _, c := range []api.Config{least(), pairs(), full()} {
		for many := range 20 {
			c.Chans = times(many, api.Chan{Kind: 3, Room: 8, In: 255, Out: 255})
			if many <= 8 {
				fine(t, c)
			} else {
				checks(t, c, chans, 0, api.ErrMany)
			}
		}
		c.Chans = nil
		fine(t, c)
		for _, many := range []int{9, 10, 16, 255, 256, 257, 258, 264, 512, 513, 65536, 65537} {
			c.Chans = make([]api.Chan, many)
			checks(t, c, chans, 0, api.ErrMany)
		}
		for x := range wrongChans() {
			c.Chans = with(make([]api.Chan, 9), 4, x)
			checks(t, c, chans, 0, api.ErrMany)
		}
	}
}

// P32.1: all kinds of channels that may be.
func TestChansFine(t *testing.T) {
	for kind := range 4 {
		for room := range 9 {
			for _, in := range []int{0, 1, 127, 128, 254, 255} {
				for _, out := range []int{0, 1, 127, 128, 254, 255} {
					c := pairs()
					c.Chans = []api.Chan{{}, {Kind: kind, Room: room, In: in, Out: out}}
					holds(t, c)
					fine(t, c)
				}
			}
		}
	}
}

// P32.1: a channel that may not be, at each place, with each of its errors.
func TestChansWrong(t *testing.T) {
	for x, e := range wrongChans() {
		for many := 1; many <= 8; many++ {
			for at := range many {
				c := full()
				c.Chans = with(c.Chans[:many], at, x)
				checks(t, c, chans, at, e)
				c.Chans[many-1] = api.Chan{Kind: 4}
				if at < many-1 {
					checks(t, c, chans, at, e)
				}
				c.Chans[many-1] = api.Chan{Room: 9}
				if at < many-1 {
					checks(t, c, chans, at, e)
				}
			}
		}
	}
}

// P32.1: no barriers, eight, and more than that, whatever these are.
func TestBarsNumber(t *testing.T) {
	for _, c := range []api.Config{least(), pairs(), full()} {
		for i := range c.Starts {
			c.Starts[i].Bars = 0
		}
		for many := range 20 {
			c.Bars = times(many, api.Barrier{Alting: true, Limit: 65535})
			if many <= 8 {
				fine(t, c)
			} else {
				checks(t, c, bars, 0, api.ErrMany)
			}
		}
		c.Bars = nil
		fine(t, c)
		for _, many := range []int{9, 10, 16, 63, 64, 65, 255, 256, 257, 258, 264, 512, 513, 65536, 65537} {
			c.Bars = times(many, api.Barrier{Limit: 1})
			checks(t, c, bars, 0, api.ErrMany)
		}
		for _, x := range wrongBars() {
			c.Bars = with(times(9, api.Barrier{Limit: 1}), 4, x)
			checks(t, c, bars, 0, api.ErrMany)
		}
	}
}

// P32.1: all limits of barriers, alting and not.
func TestBarsLimits(t *testing.T) {
	for limit := 1; limit <= 65535; limit++ {
		c := least()
		c.Bars = []api.Barrier{{Alting: limit%2 == 0, Limit: limit}, {Alting: limit%2 == 1, Limit: limit}}
		if p, e := Check(c); p != (Place{}) || e != api.OK {
			t.Fatalf("Check with a limit of %d: %+v, %d", limit, p, e)
		}
		s := Bytes(c)
		if s != written(c) {
			t.Fatalf("Bytes with a limit of %d: %q", limit, s)
		}
		if got, n, e := Read(s, 0); !alike(got, c) || n != len(s) || e != api.OK {
			t.Fatalf("Read(%q): %+v, %d, %d", s, got, n, e)
		}
	}
}

// P32.1: a barrier that may not be, at each place.
func TestBarsWrong(t *testing.T) {
	for _, x := range wrongBars() {
		for many := 1; many <= 8; many++ {
			for at := range many {
				c := full()
				c.Bars = with(c.Bars[:many], at, x)
				checks(t, c, bars, at, api.ErrRange)
				if at < many-1 {
					c.Bars[many-1] = api.Barrier{Limit: 65536}
					checks(t, c, bars, at, api.ErrRange)
				}
			}
		}
	}
}

// P32.1: 0 to 4 buckets may be, less and more may not.
func TestBuckets(t *testing.T) {
	for _, c := range []api.Config{least(), pairs(), full()} {
		for c.Buckets = range 5 {
			fine(t, c)
			holds(t, c)
		}
		for _, many := range append(far, -5, -4, -3, 5, 6, 7, 8, 128, 255, 256, 257, 260) {
			c.Buckets = many
			checks(t, c, buckets, 0, api.ErrRange)
		}
	}
}

// P32.1: no starts, nil or just empty, and more than sixteen, whatever these are.
func TestStartsNumber(t *testing.T) {
	for _, c := range []api.Config{least(), pairs(), full()} {
		for many := range 40 {
			c.Starts = times(many, api.Start{Arg: -7})
			switch {
			case many == 0:
				checks(t, c, starts, 0, api.ErrEmpty)
			case many <= 16:
				fine(t, c)
			default:
				checks(t, c, starts, 0, api.ErrMany)
			}
		}
		c.Starts = nil
		checks(t, c, starts, 0, api.ErrEmpty)
		for _, many := range []int{17, 18, 32, 255, 256, 257, 258, 272, 512, 513, 65536, 65537} {
			c.Starts = make([]api.Start, many)
			checks(t, c, starts, 0, api.ErrMany)
		}
		for _, x := range wrongStarts(len(c.Progs), len(c.Bars)) {
			c.Starts = with(make([]api.Start, 17), 9, x)
			checks(t, c, starts, 0, api.ErrMany)
		}
	}
}

// P32.1: starts of each program that there is, and of others.
func TestStartsProg(t *testing.T) {
	for many := 1; many <= 8; many++ {
		c := api.Config{Progs: full().Progs[:many], Starts: make([]api.Start, 3)}
		for _, n := range append(far, 0, 1, 2, 3, 4, 5, 6, 7, 8, 9, 127, 128, 255, 256, 257) {
			for at := range 3 {
				c.Starts = with(make([]api.Start, 3), at, api.Start{Prog: n, Arg: 5})
				if n >= 0 && n < many {
					fine(t, c)
					holds(t, c)
				} else {
					checks(t, c, starts, at, api.ErrRange)
				}
			}
		}
	}
}

// P32.1, P32.2: words as Arg, with their bytes, and numbers that are none, at both ends.
func TestStartsArg(t *testing.T) {
	for n, s := range map[int]string{
		low: "\x80\x00\x00\x00", low + 1: "\x80\x00\x00\x01", -16777217: "\xfe\xff\xff\xff", -16777216: "\xff\x00\x00\x00", -65536: "\xff\xff\x00\x00", -256: "\xff\xff\xff\x00", -2: "\xff\xff\xff\xfe", -1: "\xff\xff\xff\xff",
		0: "\x00\x00\x00\x00", 1: "\x00\x00\x00\x01", 255: "\x00\x00\x00\xff", 256: "\x00\x00\x01\x00", 65536: "\x00\x01\x00\x00", 16777216: "\x01\x00\x00\x00", 305419896: "\x12\x34\x56\x78", high - 1: "\x7f\xff\xff\xfe", high: "\x7f\xff\xff\xff",
	} {
		c := least()
		c.Starts[0].Arg = n
		text := leastText[:11] + s + "\x00"
		writes(t, c, text)
		reads(t, text, 0, c, 16, api.OK)
	}
	for _, n := range noWords {
		for many := 1; many <= 16; many++ {
			for _, at := range []int{0, many / 2, many - 1} {
				c := full()
				c.Starts = c.Starts[:many]
				c.Starts[at].Arg = n
				checks(t, c, starts, at, api.ErrRange)
			}
		}
	}
}

// P32.1, P32.2: all of Bars, with each number of barriers: those of barriers that there are may be.
func TestStartsBars(t *testing.T) {
	for many := range 9 {
		c := api.Config{Progs: [][]api.Instr{one}, Bars: full().Bars[:many]}
		for n := -300; n <= 600; n++ {
			c.Starts = []api.Start{{Bars: 0}, {Bars: n}, {Bars: 0}}
			if n >= 0 && n < int(math.Pow(2, float64(many))) {
				fine(t, c)
				holds(t, c)
			} else {
				checks(t, c, starts, 1, api.ErrRange)
			}
		}
		c.Starts = []api.Start{{Bars: int(math.Pow(2, float64(many))) - 1}}
		fine(t, c)
		c.Starts[0].Bars++
		checks(t, c, starts, 0, api.ErrRange)
		for _, n := range far {
			c.Starts[0].Bars = n
			checks(t, c, starts, 0, api.ErrRange)
		}
		for n := range 256 {
			readsAnew(t, written(c)[:len(written(c))-1]+string([]byte{byte(n)}), 0)
		}
	}
}

// P32.1: a start that may not be, at each place; the first of two counts.
func TestStartsWrong(t *testing.T) {
	for _, x := range wrongStarts(8, 8) {
		for many := 1; many <= 16; many++ {
			for at := range many {
				c := full()
				c.Starts = with(c.Starts[:many], at, x)
				checks(t, c, starts, at, api.ErrRange)
				if at < many-1 {
					c.Starts[many-1].Prog = 8
					checks(t, c, starts, at, api.ErrRange)
				}
			}
		}
	}
	for manyProgs := 1; manyProgs <= 8; manyProgs++ {
		for manyBars := range 9 {
			for _, x := range wrongStarts(manyProgs, manyBars) {
				c := api.Config{Progs: full().Progs[:manyProgs], Bars: full().Bars[:manyBars], Starts: []api.Start{{}, x, {}}}
				checks(t, c, starts, 1, api.ErrRange)
			}
		}
	}
}

// spoiling has a part of something go wrong.
type spoiling struct {
	part, at int
	err      api.Errno
	do       func(c *api.Config)
}

// spoilings are ways in which pairs may go wrong, in the order in which they are told, where those of one part are told by themselves.
func spoilings() []spoiling {
	return []spoiling{
		{progs, 0, api.ErrEmpty, func(c *api.Config) { c.Progs = nil }},
		{progs, 0, api.ErrMany, func(c *api.Config) { c.Progs = times(9, one) }},
		{progs, 0, api.ErrCode, func(c *api.Config) { c.Progs[0] = []api.Instr{{Op: 255}} }},
		{progs, 1, api.ErrForm, func(c *api.Config) { c.Progs[1] = []api.Instr{halt, skip} }},
		{chans, 0, api.ErrMany, func(c *api.Config) { c.Chans = make([]api.Chan, 9) }},
		{chans, 0, api.ErrKind, func(c *api.Config) { c.Chans[0].Kind = 4 }},
		{chans, 1, api.ErrRange, func(c *api.Config) { c.Chans[1].Out = -1 }},
		{bars, 0, api.ErrMany, func(c *api.Config) { c.Bars = times(9, api.Barrier{Limit: 3}) }},
		{bars, 0, api.ErrRange, func(c *api.Config) { c.Bars[0].Limit = 0 }},
		{bars, 1, api.ErrRange, func(c *api.Config) { c.Bars[1].Limit = 65536 }},
		{buckets, 0, api.ErrRange, func(c *api.Config) { c.Buckets = -1 }},
		{buckets, 0, api.ErrRange, func(c *api.Config) { c.Buckets = 5 }},
		{starts, 0, api.ErrEmpty, func(c *api.Config) { c.Starts = nil }},
		{starts, 0, api.ErrMany, func(c *api.Config) { c.Starts = make([]api.Start, 17) }},
		{starts, 0, api.ErrRange, func(c *api.Config) { c.Starts[0].Prog = 2 }},
		{starts, 1, api.ErrRange, func(c *api.Config) { c.Starts[1].Bars = 4 }},
	}
}

// P32.1: of more than one thing that is wrong the first part's is told.
func TestCheckFirst(t *testing.T) {
	l := spoilings()
	for _, a := range l {
		c := pairs()
		a.do(&c)
		checks(t, c, a.part, a.at, a.err)
		for _, b := range l {
			if b.part <= a.part {
				continue
			}
			two := copied(c)
			b.do(&two)
			checks(t, two, a.part, a.at, a.err)
			for _, x := range l {
				if x.part > b.part {
					three := copied(two)
					x.do(&three)
					checks(t, three, a.part, a.at, a.err)
				}
			}
		}
	}
	c := api.Config{Buckets: -1}
	checks(t, c, progs, 0, api.ErrEmpty)
	c.Progs = [][]api.Instr{one}
	checks(t, c, buckets, 0, api.ErrRange)
	c.Buckets = 0
	checks(t, c, starts, 0, api.ErrEmpty)
	checks(t, api.Config{}, progs, 0, api.ErrEmpty)
}

// P32.2: at below 0, at the end of a text, and behind it.
func TestReadAt(t *testing.T) {
	for _, s := range []string{"", "\x01", leastText, pairsText, strings.Repeat("\x00", 300), strings.Repeat(leastText, 20)} {
		for _, at := range append(far, -16, -8, -4, -3) {
			if at < 0 || at > len(s) {
				refuses(t, s, at, api.ErrRange)
			}
		}
		refuses(t, s, len(s), api.ErrEnd)
		for more := 1; more < 300; more++ {
			refuses(t, s, len(s)+more, api.ErrRange)
		}
	}
}

// P32.2: what stands at the start of a text, in its middle, and at its end.
func TestReadPlaces(t *testing.T) {
	others := []string{"", "\x00", "\xff", "\x01\x01\x01", strings.Repeat("\x01", 40), strings.Repeat("\xff", 300), leastText, pairsText}
	for _, c := range good() {
		s := written(c)
		for _, ahead := range others {
			for _, behind := range others {
				reads(t, ahead+s+behind, len(ahead), c, len(ahead)+len(s), api.OK)
			}
		}
	}
}

// P32.2: what stands one behind the other is read one behind the other.
func TestReadRow(t *testing.T) {
	var all strings.Builder
	for _, c := range good() {
		all.WriteString(Bytes(c))
	}
	at := 0
	for _, want := range good() {
		got, behind, e := Read(all.String(), at)
		if !alike(got, want) || e != api.OK || behind != at+len(written(want)) {
			t.Fatalf("Read at %d: %s, %d, %d; want %s", at, shown(got), behind, e, shown(want))
		}
		at = behind
	}
	refuses(t, all.String(), at, api.ErrEnd)
}

// P32.2: a text that ends ahead of each byte that is asked for.
func TestReadEnd(t *testing.T) {
	for _, c := range good() {
		s := written(c)
		for n := range s {
			refuses(t, s[:n], 0, api.ErrEnd)
			refuses(t, "\x01\x02"+s[:n], 2, api.ErrEnd)
		}
	}
}

// P32.2: numbers of programs, channels, barriers, buckets and starts, all of them, as bytes: those that may not be are told at once.
func TestReadNumbers(t *testing.T) {
	const program, line, fence, start = "\x01\x01\x00\x00\x00", "\x00\x00\x00\x00", "\x00\x00\x01", "\x00\x00\x00\x00\x00\x00"
	for _, x := range []struct {
		ahead, each, behind string
		least, most         int
		few, much           api.Errno
	}{
		{"", program, "\x00\x00\x00\x01" + start, 1, 8, api.ErrEmpty, api.ErrMany},
		{"\x01" + program, line, "\x00\x00\x01" + start, 0, 8, api.OK, api.ErrMany},
		{"\x01" + program + "\x00", fence, "\x00\x01" + start, 0, 8, api.OK, api.ErrMany},
		{"\x01" + program + "\x00\x00", "", "\x01" + start, 0, 4, api.OK, api.ErrRange},
		{"\x01" + program + "\x00\x00\x00", start, "", 1, 16, api.ErrEmpty, api.ErrMany},
	} {
		for n := range 256 {
			s := x.ahead + string([]byte{byte(n)})
			err := api.ErrEnd
			switch {
			case n < x.least:
				err = x.few
			case n > x.most:
				err = x.much
			}
			refuses(t, s, 0, err)
			s += strings.Repeat(x.each, n) + x.behind
			if n >= x.least && n <= x.most {
				if got, behind, e := Read(s, 0); behind != len(s) || e != api.OK || Bytes(got) != s {
					t.Errorf("Read(%.400q): %s, %d, %d", s, shown(got), behind, e)
				}
				continue
			}
			refuses(t, s, 0, err)
			refuses(t, x.ahead+string([]byte{byte(n)})+strings.Repeat("\xff", 300), 0, err)
		}
	}
}

// P32.2: programs whose bytes are wrong, at each place, with each of their errors.
func TestReadProgsWrong(t *testing.T) {
	const fine = "\x01\x01\x00\x00\x00"
	for _, x := range []struct {
		s string
		e api.Errno
	}{
		{"\x00", api.ErrEmpty}, {"\x41", api.ErrMany}, {"\xff", api.ErrMany},
		{"\x01\x30\x00\x00\x00", api.ErrCode}, {"\x01\xff\xff\xff\xff", api.ErrCode}, {"\x02\x01\x00\x00\x00\x30\x00\x00\x00", api.ErrCode},
		{"\x01\x01\x00\x00\x01", api.ErrForm}, {"\x01\x2d\x00\x00\x08", api.ErrForm}, {"\x02\x29\x00\x00\x01\x01\x00\x00\x00", api.ErrForm},
		{"\x01\x1b\x08\x00\x00", api.ErrRange}, {"\x01\x12\x02\x00\x00", api.ErrRange},
		{"\x02\x12\x03\x00\x00\x01\x00\x00\x01", api.ErrForm}, {"\x02\x12\x03\x00\x00\x30\x00\x00\x01", api.ErrCode},
	} {
		for many := 1; many <= 8; many++ {
			for at := range many {
				ahead := string([]byte{byte(many)}) + strings.Repeat(fine, at)
				refuses(t, ahead+x.s, 0, x.e)
				refuses(t, ahead+x.s+strings.Repeat(fine, many-at-1)+leastText[6:], 0, x.e)
				refuses(t, ahead+x.s+strings.Repeat("\xff", 300), 0, x.e)
			}
		}
	}
	refuses(t, "\x01\x02\x30\x00\x00\x00", 0, api.ErrCode) // told ahead of the instruction that is missing
	refuses(t, "\x01\x02\x12\x03\x00\x00", 0, api.ErrEnd)  // told ahead of the place that is behind the end
	refuses(t, "\x01\x40"+strings.Repeat("\x00", 255), 0, api.ErrEnd)
}

// P32.2: all of a channel's kinds and rooms as bytes, at each place; that the text ends ahead of its fourth byte is told before.
func TestReadChansWrong(t *testing.T) {
	for kind := range 256 {
		for _, room := range []int{0, 1, 7, 8, 9, 10, 16, 127, 128, 255} {
			err := api.OK
			switch {
			case kind > 3:
				err = api.ErrKind
			case room > 8:
				err = api.ErrRange
			}
			for many := 1; many <= 8; many++ {
				for _, at := range []int{0, many / 2, many - 1} {
					ahead := leastText[:6] + string([]byte{byte(many)}) + strings.Repeat("\x00\x08\xff\xff", at) + string([]byte{byte(kind), byte(room)})
					behind := strings.Repeat("\x00\x08\xff\xff", many-at-1) + leastText[7:]
					refuses(t, ahead, 0, api.ErrEnd)
					refuses(t, ahead+"\xff", 0, api.ErrEnd)
					if err == api.OK {
						if !readsAnew(t, ahead+"\xff\x07"+behind, 0) {
							t.Errorf("a channel of %d %d is not read", kind, room)
						}
						continue
					}
					refuses(t, ahead+"\x00\x00", 0, err)
					refuses(t, ahead+"\xff\x07"+behind, 0, err)
					refuses(t, ahead+strings.Repeat("\xff", 300), 0, err)
				}
			}
		}
	}
}

// P32.2: all of a barrier's first bytes, with limits that may be, and 0, at each place; that the text ends ahead of its third byte is told before.
func TestReadBarsWrong(t *testing.T) {
	for alting := range 256 {
		for _, limit := range []string{"\x00\x00", "\x00\x01", "\x00\xff", "\x01\x00", "\x01\x02", "\xff\x00", "\xff\xff"} {
			err := api.OK
			switch {
			case alting > 1:
				err = api.ErrForm
			case limit == "\x00\x00":
				err = api.ErrRange
			}
			for many := 1; many <= 8; many++ {
				for _, at := range []int{0, many / 2, many - 1} {
					ahead := leastText[:7] + string([]byte{byte(many)}) + strings.Repeat("\x01\x00\x09", at) + string([]byte{byte(alting)})
					behind := strings.Repeat("\x00\x09\x00", many-at-1) + leastText[8:]
					refuses(t, ahead, 0, api.ErrEnd)
					refuses(t, ahead+limit[:1], 0, api.ErrEnd)
					if err == api.OK {
						if !readsAnew(t, ahead+limit+behind, 0) {
							t.Errorf("a barrier of %d %q is not read", alting, limit)
						}
						continue
					}
					refuses(t, ahead+limit, 0, err)
					refuses(t, ahead+limit+behind, 0, err)
					refuses(t, ahead+limit+strings.Repeat("\xff", 300), 0, err)
				}
			}
		}
	}
}

// P32.2: starts of programs that there are not, and on barriers that there are not, at each place; that the text ends ahead of the sixth byte is told before.
func TestReadStartsWrong(t *testing.T) {
	const head, fine = "\x02\x01\x01\x00\x00\x00\x01\x00\x00\x00\x00\x00\x02\x00\x00\x01\x00\x00\x01\x00", "\x01\x80\x00\x00\x00\x03"
	for n := range 256 {
		for _, x := range []struct {
			six  string
			fine bool
		}{
			{string([]byte{byte(n), 0, 0, 0, 0, 0}), n < 2}, {string([]byte{byte(n), 255, 255, 255, 255, 3}), n < 2}, {string([]byte{byte(n), 1, 2, 3, 4, 4}), false},
			{string([]byte{1, 127, 255, 255, 255, byte(n)}), n < 4}, {string([]byte{0, 128, 0, 0, 0, byte(n)}), n < 4}, {string([]byte{2, 0, 0, 0, 0, byte(n)}), false},
		} {
			for many := 1; many <= 16; many++ {
				for _, at := range []int{0, many / 2, many - 1} {
					ahead := head + string([]byte{byte(many)}) + strings.Repeat(fine, at)
					behind := strings.Repeat(fine, many-at-1)
					refuses(t, ahead+x.six[:1+n%5], 0, api.ErrEnd)
					if x.fine {
						if !readsAnew(t, ahead+x.six+behind, 0) {
							t.Errorf("a start of %q is not read", x.six)
						}
						continue
					}
					refuses(t, ahead+x.six, 0, api.ErrRange)
					refuses(t, ahead+x.six+behind, 0, api.ErrRange)
				}
			}
		}
	}
}

// P32.2: of more than one thing that is wrong the byte that is first asked for counts: each two bytes of a text, changed to such as may not be everywhere.
func TestReadFirst(t *testing.T) {
	picked := []byte{0, 2, 5, 9, 17, 48, 65, 255}
	for i := range pairsText {
		for _, x := range picked {
			s := []byte(pairsText)
			s[i] = x
			readsAnew(t, string(s), 0)
			for n := i; n <= len(s); n++ {
				readsAnew(t, string(s[:n]), 0)
			}
			for k := i + 1; k < len(s); k++ {
				for _, y := range picked {
					s[k] = y
					readsAnew(t, string(s), 0)
				}
				s[k] = pairsText[k]
			}
		}
	}
	for _, x := range []struct {
		s string
		e api.Errno
	}{
		{"\x00\xff", api.ErrEmpty}, {"\x09\x00", api.ErrMany}, {"\x02\x30\x00", api.ErrEnd}, {"\x02\x01\x30\x00\x00\x00\x00", api.ErrCode},
		{leastText[:6] + "\x09\x04\x00\x00\x00\x09", api.ErrMany}, {leastText[:6] + "\x02\x00\x09\x00\x00\x04\x00\x00\x00", api.ErrRange}, {leastText[:6] + "\x02\x04\x09\x00\x00\x00\x09\x00\x00", api.ErrKind},
		{leastText[:6] + "\x01\x00\x00\x00\x00\x09\x02", api.ErrMany}, {leastText[:7] + "\x02\x02\x00\x00\x00\x00\x00", api.ErrForm}, {leastText[:7] + "\x02\x01\x00\x00\x02\x00\x00", api.ErrRange}, {leastText[:7] + "\x02\x01\x00\x01\x02\x00", api.ErrEnd},
		{leastText[:8] + "\x05\x00", api.ErrRange}, {leastText[:8] + "\x04\x00", api.ErrEmpty}, {leastText[:8] + "\x04\x11", api.ErrMany}, {leastText[:8] + "\x04\x10\x01\x00\x00\x00\x00", api.ErrEnd}, {leastText[:8] + "\x04\x10\x01\x00\x00\x00\x00\x00", api.ErrRange},
	} {
		refuses(t, x.s, 0, x.e)
	}
}

// P32.2: each byte of a text, changed to each other one.
func TestReadBytes(t *testing.T) {
	for _, text := range []string{leastText, pairsText, written(good()[6])} {
		for i := range text {
			for x := range 256 {
				s := []byte(text)
				s[i] = byte(x)
				readsAnew(t, string(s), 0)
			}
		}
	}
}

// changes are all that differ from something in one field, or by one thing of a list more or less, or by two things of a list that have changed places.
func changes(c api.Config) []api.Config {
	var l []api.Config
	add := func(do func(c *api.Config)) {
		own := copied(c)
		do(&own)
		l = append(l, own)
	}
	for i, p := range c.Progs {
		for k := range p {
			add(func(c *api.Config) { c.Progs[i][k].Op++ })
			add(func(c *api.Config) { c.Progs[i][k].A++ })
			add(func(c *api.Config) { c.Progs[i][k].B ^= 128 })
			add(func(c *api.Config) { c.Progs[i][k].C-- })
			add(func(c *api.Config) { c.Progs[i] = slices.Delete(c.Progs[i], k, k+1) })
		}
		add(func(c *api.Config) { c.Progs[i] = append(c.Progs[i], nop) })
		add(func(c *api.Config) { c.Progs[i] = slices.Insert(c.Progs[i], 0, jump) })
		if len(p) > 0 {
			add(func(c *api.Config) { c.Progs[i] = nil })
		}
		add(func(c *api.Config) { c.Progs = c.Progs[:i] })
	}
	add(func(c *api.Config) { c.Progs = append(c.Progs, one) })
	add(func(c *api.Config) { c.Progs = append(c.Progs, nil) })
	for _, by := range []int{-65536, -1, 1, 256, 1 << 32} {
		for i := range c.Chans {
			add(func(c *api.Config) { c.Chans[i].Kind += by })
			add(func(c *api.Config) { c.Chans[i].Room += by })
			add(func(c *api.Config) { c.Chans[i].In += by })
			add(func(c *api.Config) { c.Chans[i].Out += by })
		}
		for i := range c.Bars {
			add(func(c *api.Config) { c.Bars[i].Limit += by })
		}
		add(func(c *api.Config) { c.Buckets += by })
		for i := range c.Starts {
			add(func(c *api.Config) { c.Starts[i].Prog += by })
			add(func(c *api.Config) { c.Starts[i].Arg += by })
			add(func(c *api.Config) { c.Starts[i].Bars += by })
		}
	}
	for i := range c.Bars {
		add(func(c *api.Config) { c.Bars[i].Alting = !c.Bars[i].Alting })
		add(func(c *api.Config) { c.Bars = c.Bars[:i] })
	}
	for i := range c.Chans {
		add(func(c *api.Config) { c.Chans = c.Chans[:i] })
	}
	for i := range c.Starts {
		add(func(c *api.Config) { c.Starts = c.Starts[:i] })
	}
	add(func(c *api.Config) { c.Chans = append(c.Chans, api.Chan{}) })
	add(func(c *api.Config) { c.Bars = append(c.Bars, api.Barrier{Limit: 1}) })
	add(func(c *api.Config) { c.Starts = append(c.Starts, api.Start{}) })
	if len(c.Progs) > 1 && len(c.Chans) > 1 && len(c.Bars) > 1 && len(c.Starts) > 1 {
		add(func(c *api.Config) { c.Progs[0], c.Progs[1] = c.Progs[1], c.Progs[0] })
		add(func(c *api.Config) { c.Chans[0], c.Chans[1] = c.Chans[1], c.Chans[0] })
		add(func(c *api.Config) { c.Bars[0], c.Bars[1] = c.Bars[1], c.Bars[0] })
		add(func(c *api.Config) { c.Starts[0], c.Starts[1] = c.Starts[1], c.Starts[0] })
	}
	return l
}

// P32.3: two that are the same, in memory of their own, and two that differ in one thing, be these such as may be or not.
func TestSame(t *testing.T) {
	odd := api.Config{Progs: [][]api.Instr{nil, {skip}, times(70, nop)}, Chans: times(9, api.Chan{Kind: 7, Room: -1}), Bars: times(9, api.Barrier{}), Buckets: math.MinInt, Starts: times(17, api.Start{Prog: -1, Arg: math.MaxInt, Bars: 1 << 40})}
	odd.Chans[1].In, odd.Bars[1].Limit, odd.Starts[1].Bars = -3, math.MaxInt, -1
	for _, c := range append(good()[:7], api.Config{}, odd) {
		sames(t, c, c, true)
		sames(t, c, copied(c), true)
		for _, x := range changes(c) {
			sames(t, c, x, false)
			sames(t, x, copied(x), true)
		}
	}
}

// P32.3: all of some, against each other.
func TestSameAll(t *testing.T) {
	l := good()
	for i, a := range l {
		for k, b := range l {
			sames(t, a, b, alike(a, b))
			if i == k {
				sames(t, a, b, true)
			}
		}
	}
}

// P32.3: a list that is nil and one that is empty are the same, but a program that is empty is one.
func TestSameEmpty(t *testing.T) {
	empty := api.Config{Progs: [][]api.Instr{}, Chans: []api.Chan{}, Bars: []api.Barrier{}, Starts: []api.Start{}}
	sames(t, api.Config{}, empty, true)
	sames(t, api.Config{Progs: [][]api.Instr{nil, one}}, api.Config{Progs: [][]api.Instr{{}, one}, Chans: []api.Chan{}}, true)
	sames(t, api.Config{Progs: [][]api.Instr{nil}}, empty, false)
	sames(t, api.Config{Progs: [][]api.Instr{nil, one}}, api.Config{Progs: [][]api.Instr{one, nil}}, false)
	sames(t, api.Config{Progs: [][]api.Instr{two}}, api.Config{Progs: [][]api.Instr{two[:1], two[1:]}}, false)
	sames(t, api.Config{Bars: []api.Barrier{{}}}, empty, false)
	sames(t, api.Config{Chans: []api.Chan{{}}}, empty, false)
	sames(t, api.Config{Starts: []api.Start{{}}}, empty, false)
}

// P32.1, P32.2: what differs from such as may be in one thing is told of as the chapter asks for.
func TestChanges(t *testing.T) {
	for _, c := range good()[:7] {
		for _, x := range changes(c) {
			holds(t, x)
		}
	}
}

// P32.1, P32.2, P32.4: what may be, by chance, is written, comes back from its bytes, wherever they stand, and is the same.
func TestBack(t *testing.T) {
	r := rand.New(rand.NewSource(321))
	for range 3000 {
		c := byChance(r)
		fine(t, c)
		holds(t, c)
		ahead, behind := make([]byte, r.Intn(30)), make([]byte, r.Intn(30))
		r.Read(ahead)
		r.Read(behind)
		s := Bytes(c)
		text := string(ahead) + s + string(behind)
		reads(t, text, len(ahead), c, len(ahead)+len(s), api.OK)
		got, _, _ := Read(text, len(ahead))
		sames(t, c, got, true)
	}
}

// P32.4: what bytes are read as has just these bytes: texts of what may be, by chance, with some bytes changed, cut, or put in.
func TestBackTexts(t *testing.T) {
	r := rand.New(rand.NewSource(322))
	picked := []byte{0, 0, 1, 1, 2, 3, 4, 5, 7, 8, 9, 15, 16, 17, 45, 48, 64, 65, 128, 255}
	taken, refused := 0, 0
	for range 60000 {
		s := []byte(written(byChance(r)))
		for range 1 + r.Intn(3) {
			at := r.Intn(len(s))
			switch r.Intn(5) {
			case 0:
				s = slices.Insert(s, at, picked[r.Intn(len(picked))])
			case 1:
				s = slices.Delete(s, at, min(len(s), at+1))
			case 2:
				s[at] = byte(r.Intn(256))
			default:
				s[at] = picked[r.Intn(len(picked))]
			}
			if len(s) == 0 {
				break
			}
		}
		ahead := r.Intn(3)
		if readsAnew(t, strings.Repeat("\x01", ahead)+string(s), ahead) {
			taken++
		} else {
			refused++
		}
	}
	if taken < 5000 || refused < 5000 {
		t.Errorf("%d were taken, %d refused", taken, refused)
	}
}

// P32.4: short texts of bytes by chance.
func TestBackShort(t *testing.T) {
	r := rand.New(rand.NewSource(323))
	picked := []byte{0, 0, 0, 0, 0, 0, 1, 1, 1, 1, 1, 2, 2, 3, 5, 9, 255}
	taken := 0
	for range 300000 {
		s := make([]byte, r.Intn(40))
		for i := range s {
			s[i] = picked[r.Intn(len(picked))]
		}
		text := string(s)
		if r.Intn(2) == 0 {
			text = "\x01\x01\x01\x00\x00\x00" + text
		}
		if readsAnew(t, text, 0) {
			taken++
		}
		readsAnew(t, text, r.Intn(len(text)+1))
	}
	if taken < 1000 {
		t.Errorf("just %d were taken", taken)
	}
}

// P32.4: no two of what may be have the same bytes.
func TestBackOne(t *testing.T) {
	seen := map[string]api.Config{}
	none := func(c api.Config) {
		s := Bytes(c)
		if x, is := seen[s]; is && s != "" && !alike(x, c) {
			t.Errorf("%.400q are those of %s and of %s", s, shown(x), shown(c))
		}
		seen[s] = c
	}
	for _, c := range good() {
		none(c)
		for _, x := range changes(c) {
			none(x)
		}
	}
	r := rand.New(rand.NewSource(324))
	for range 5000 {
		none(byChance(r))
	}
}

// P32.2: what is answered is the caller's own: it shares no memory with what another call answered, nor does one of its programs with the next one.
func TestOwn(t *testing.T) {
	first, _, _ := Read(pairsText, 0)
	second, _, _ := Read(pairsText+leastText, 0)
	third, _, _ := Read(leastText, 0)
	spoil(second)
	if !alike(first, pairs()) || !alike(third, least()) {
		t.Errorf("what was read shares memory: %+v, %+v", first, third)
	}
	for i := range first.Progs {
		_ = append(first.Progs[i], emit, emit, emit)
	}
	if !alike(first, pairs()) {
		t.Errorf("programs share memory: %+v", first)
	}
	s := Bytes(first)
	spoil(first)
	if s != pairsText {
		t.Errorf("bytes share memory: %q", s)
	}
}
