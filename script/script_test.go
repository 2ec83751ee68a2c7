package script

import (
	"fmt"
	"math"
	"math/rand"
	"reflect"
	"slices"
	"strings"
	"testing"

	"becket/api"
	"becket/choice"
	"becket/conf"
	"becket/opcode"
)

// How many choices there may be, and the ends of the words, as the document has them.
const (
	most = 2000
	low  = -1 << 31
	high = 1<<31 - 1
)

// Instructions, and programs that may be.
var (
	halt = api.Instr{Op: opcode.Halt}
	skip = api.Instr{Op: opcode.Gskip, C: 8}
	emit = api.Instr{Op: opcode.Emit, A: 7}

	one  = []api.Instr{halt}
	two  = []api.Instr{emit, halt}
	alts = []api.Instr{{Op: opcode.Alt, A: 1, B: 2, C: 2}, skip, {Op: opcode.Gin, A: 7, B: 7, C: 3}, {Op: opcode.Set, A: 2, B: 255, C: 254}}
	long = slices.Repeat(one, 64)
)

// least is the least that there may be, with no choices: the chapter's example.
func least() Script {
	return Script{Conf: api.Config{Progs: [][]api.Instr{one}, Starts: []api.Start{{}}}}
}

// Its bytes: what there is, and no choices.
const (
	leastConf = "\x01\x01\x01\x00\x00\x00\x00\x00\x00\x01\x00\x00\x00\x00\x00\x00"
	leastText = "BK" + leastConf + "\x00\x00"
)

// pairs has two of each part, and of choices.
func pairs() Script {
	return Script{
		Conf: api.Config{
			Progs:   [][]api.Instr{one, two},
			Chans:   []api.Chan{{Kind: 0, Room: 0, In: 4, Out: 9}, {Kind: 1, Room: 8, In: 255, Out: 0}},
			Bars:    []api.Barrier{{Alting: true, Limit: 258}, {Limit: 9}},
			Buckets: 4,
			Starts:  []api.Start{{Prog: 1, Arg: -2, Bars: 3}, {Prog: 0, Arg: 16909060, Bars: 0}},
		},
		Choices: []choice.Choice{{Kind: choice.Tick, V: 258}, {V: 1, W: 255}},
	}
}

// Its bytes, part by part.
const (
	pairsConf = "\x02" + "\x01\x01\x00\x00\x00" + "\x02\x1b\x07\x00\x00\x01\x00\x00\x00" +
		"\x02" + "\x00\x00\x04\x09" + "\x01\x08\xff\x00" +
		"\x02" + "\x01\x01\x02" + "\x00\x00\x09" +
		"\x04" +
		"\x02" + "\x01\xff\xff\xff\xfe\x03" + "\x00\x01\x02\x03\x04\x00"
	pairsText = "BK" + pairsConf + "\x00\x02" + "\x01\x01\x02" + "\x00\x01\xff"
)

// full has as many of each part as there may be, but no choices.
func full() Script {
	c := api.Config{Progs: [][]api.Instr{one, two, alts, long, one, two, two, alts}, Buckets: 4}
	for i := range 8 {
		c.Chans = append(c.Chans, api.Chan{Kind: i % 4, Room: 8 - i, In: 255 - 3*i, Out: 5 * i})
		c.Bars = append(c.Bars, api.Barrier{Alting: i%3 == 0, Limit: 65535 - 8191*i})
	}
	for i := range 16 {
		c.Starts = append(c.Starts, api.Start{Prog: i % 8, Arg: low + 286331153*i, Bars: 255 - 17*i})
	}
	return Script{Conf: c}
}

// many are so many choices, each of which may be.
func many(n int) []choice.Choice {
	var l []choice.Choice
	for i := range n {
		switch i % 3 {
		case 0:
			l = append(l, choice.Choice{V: i % 256, W: (i*7 + 3) % 256})
		case 1:
			l = append(l, choice.Choice{Kind: choice.Tick, V: i * 31 % 65536})
		case 2:
			l = append(l, choice.Choice{Kind: choice.Tick, V: 65535 - i})
		}
	}
	return l
}

// picking is a script with other choices.
func picking(s Script, l []choice.Choice) Script {
	s.Choices = l
	return s
}

// times is a list of the same thing so many times.
func times[T any](many int, x T) []T { return slices.Repeat([]T{x}, many) }

// with is a list of its own with another thing at a place.
func with[T any](l []T, at int, x T) []T {
	own := slices.Clone(l)
	own[at] = x
	return own
}

// changed is what there is of two of each part, with something done to it.
func changed(do func(c *api.Config)) api.Config {
	c := pairs().Conf
	do(&c)
	return c
}

// bases are what there is, of many kinds.
func bases() []Script {
	l := []Script{
		least(), pairs(), full(),
		{Conf: api.Config{Progs: times(8, long), Bars: times(8, api.Barrier{Alting: true, Limit: 65535}), Buckets: 1, Starts: []api.Start{{Prog: 7, Arg: low, Bars: 255}}}},
		{Conf: api.Config{Progs: [][]api.Instr{two}, Chans: times(8, api.Chan{Kind: 3, Room: 8, In: 255, Out: 255}), Starts: times(16, api.Start{Arg: high})}},
		{Conf: api.Config{Progs: [][]api.Instr{alts, one}, Chans: []api.Chan{{Kind: 2}}, Bars: []api.Barrier{{Limit: 1}}, Buckets: 3, Starts: []api.Start{{Prog: 1, Arg: -1, Bars: 1}}}},
		{Conf: api.Config{Progs: [][]api.Instr{one}, Chans: []api.Chan{}, Bars: []api.Barrier{}, Starts: []api.Start{{}}}, Choices: []choice.Choice{}},
	}
	for n := 1; n <= 8; n++ {
		c := full()
		c.Conf.Progs = c.Conf.Progs[:n]
		for i := range c.Conf.Starts {
			c.Conf.Starts[i].Prog %= n
		}
		l = append(l, c)
	}
	for n := range 9 {
		c, d := full(), full()
		c.Conf.Chans = c.Conf.Chans[:n]
		d.Conf.Bars = d.Conf.Bars[:n]
		for i := range d.Conf.Starts {
			d.Conf.Starts[i].Bars %= 1 << n
		}
		l = append(l, c, d)
	}
	for n := range 5 {
		c := pairs()
		c.Conf.Buckets = n
		l = append(l, c)
	}
	for n := 1; n <= 16; n++ {
		c := full()
		c.Conf.Starts = c.Conf.Starts[:n]
		l = append(l, c)
	}
	return l
}

// wrongConfs are such as there may not be, each kind of fault with its error.
func wrongConfs() []struct {
	c api.Config
	e api.Errno
} {
	type wrong = struct {
		c api.Config
		e api.Errno
	}
	l := []wrong{{api.Config{}, api.ErrEmpty}}
	add := func(e api.Errno, do func(c *api.Config)) { l = append(l, wrong{changed(do), e}) }

	add(api.ErrEmpty, func(c *api.Config) { c.Progs = nil })
	add(api.ErrEmpty, func(c *api.Config) { c.Progs = [][]api.Instr{} })
	add(api.ErrMany, func(c *api.Config) { c.Progs = times(9, one) })
	add(api.ErrMany, func(c *api.Config) { c.Progs = times(257, one) })
	add(api.ErrEmpty, func(c *api.Config) { c.Progs[1] = nil })
	add(api.ErrMany, func(c *api.Config) { c.Progs[1] = times(65, halt) })
	add(api.ErrCode, func(c *api.Config) { c.Progs[1] = []api.Instr{{Op: opcode.Many}} })
	add(api.ErrForm, func(c *api.Config) { c.Progs[1] = []api.Instr{{Op: opcode.Halt, C: 1}} })
	add(api.ErrForm, func(c *api.Config) { c.Progs[1] = []api.Instr{skip} })
	add(api.ErrForm, func(c *api.Config) { c.Progs[0] = []api.Instr{{Op: opcode.Alt, C: 1}, halt} })
	add(api.ErrRange, func(c *api.Config) { c.Progs[0] = []api.Instr{{Op: opcode.Emit, A: 8}} })
	add(api.ErrRange, func(c *api.Config) { c.Progs[0] = []api.Instr{{Op: opcode.Jmp, A: 2}} })

	add(api.ErrMany, func(c *api.Config) { c.Chans = make([]api.Chan, 9) })
	add(api.ErrMany, func(c *api.Config) { c.Chans = make([]api.Chan, 256) })
	add(api.ErrKind, func(c *api.Config) { c.Chans[0].Kind = 4 })
	add(api.ErrKind, func(c *api.Config) { c.Chans[1].Kind = -1 })
	add(api.ErrRange, func(c *api.Config) { c.Chans[1].Room = 9 })
	add(api.ErrRange, func(c *api.Config) { c.Chans[0].In = 256 })
	add(api.ErrRange, func(c *api.Config) { c.Chans[1].Out = -1 })

	add(api.ErrMany, func(c *api.Config) { c.Bars = times(9, api.Barrier{Limit: 1}) })
	add(api.ErrMany, func(c *api.Config) { c.Bars = times(256, api.Barrier{Limit: 1}) })
	add(api.ErrRange, func(c *api.Config) { c.Bars[0].Limit = 0 })
	add(api.ErrRange, func(c *api.Config) { c.Bars[1].Limit = 65536 })

	add(api.ErrRange, func(c *api.Config) { c.Buckets = 5 })
	add(api.ErrRange, func(c *api.Config) { c.Buckets = -1 })
	add(api.ErrRange, func(c *api.Config) { c.Buckets = 256 })

	add(api.ErrEmpty, func(c *api.Config) { c.Starts = nil })
	add(api.ErrMany, func(c *api.Config) { c.Starts = make([]api.Start, 17) })
	add(api.ErrRange, func(c *api.Config) { c.Starts[0].Prog = 2 })
	add(api.ErrRange, func(c *api.Config) { c.Starts[1].Prog = -1 })
	add(api.ErrRange, func(c *api.Config) { c.Starts[0].Arg = high + 1 })
	add(api.ErrRange, func(c *api.Config) { c.Starts[1].Arg = low - 1 })
	add(api.ErrRange, func(c *api.Config) { c.Starts[0].Bars = 4 })
	add(api.ErrRange, func(c *api.Config) { c.Starts[1].Bars = math.MinInt })
	return l
}

// wrongChoices are choices that may not be, each kind of fault with its error.
var wrongChoices = []struct {
	c choice.Choice
	e api.Errno
}{
	{choice.Choice{Kind: 2}, api.ErrKind},
	{choice.Choice{Kind: -1, V: 1, W: 1}, api.ErrKind},
	{choice.Choice{Kind: 256, V: 300, W: 300}, api.ErrKind},
	{choice.Choice{Kind: math.MaxInt}, api.ErrKind},
	{choice.Choice{V: -1}, api.ErrRange},
	{choice.Choice{V: 256}, api.ErrRange},
	{choice.Choice{W: -1}, api.ErrRange},
	{choice.Choice{W: 256}, api.ErrRange},
	{choice.Choice{V: 1 << 32, W: 1}, api.ErrRange},
	{choice.Choice{Kind: choice.Tick, V: -1}, api.ErrRange},
	{choice.Choice{Kind: choice.Tick, V: 65536}, api.ErrRange},
	{choice.Choice{Kind: choice.Tick, W: 1}, api.ErrRange},
	{choice.Choice{Kind: choice.Tick, V: 65535, W: math.MinInt}, api.ErrRange},
}

// A fault is a text of something, and what is wrong with it.
type fault struct {
	text string
	e    api.Errno
}

// confFaults are texts of what there is, each of which has a fault just where it ends: as soon as its last byte is there, the error is told.
var confFaults = []fault{
	{"\x00", api.ErrEmpty}, // no programs
	{"\x09", api.ErrMany},
	{"\x42", api.ErrMany},
	{"\xff", api.ErrMany},
	{"\x01\x00", api.ErrEmpty}, // a program without instructions
	{"\x02" + "\x01\x01\x00\x00\x00" + "\x00", api.ErrEmpty},
	{"\x01\x41", api.ErrMany},
	{"\x01\xff", api.ErrMany},
	{"\x01\x01\x30\x00\x00\x00", api.ErrCode}, // an opcode that there is not
	{"\x01\x01\xff\x00\x00\x00", api.ErrCode},
	{"\x01\x02\x01\x00\x00\x00\xff\xff\xff\xff", api.ErrCode},
	{"\x01\x01\x01\x00\x00\x01", api.ErrForm}, // a halt of something
	{"\x01\x01\x2d\x00\x00\x08", api.ErrForm}, // a guard of no alt
	{"\x01\x01\x1b\x08\x00\x00", api.ErrRange},
	{"\x01\x01\x12\x02\x00\x00", api.ErrRange}, // a jump out of the program
	{leastConf[:6] + "\x09", api.ErrMany},      // channels
	{leastConf[:6] + "\xff", api.ErrMany},
	{leastConf[:6] + "\x01\x04\x00\x00\x00", api.ErrKind},
	{leastConf[:6] + "\x01\xff\xff\xff\xff", api.ErrKind},
	{leastConf[:6] + "\x01\x00\x09\x00\x00", api.ErrRange},
	{leastConf[:6] + "\x02\x03\x08\xff\xff\x00\xff\x00\x00", api.ErrRange},
	{leastConf[:7] + "\x09", api.ErrMany}, // barriers
	{leastConf[:7] + "\xff", api.ErrMany},
	{leastConf[:7] + "\x01\x02\x00\x01", api.ErrForm},
	{leastConf[:7] + "\x01\xff\x00\x00", api.ErrForm},
	{leastConf[:7] + "\x01\x00\x00\x00", api.ErrRange},
	{leastConf[:7] + "\x02\x01\x00\x01\x01\x00\x00", api.ErrRange},
	{leastConf[:8] + "\x05", api.ErrRange}, // buckets
	{leastConf[:8] + "\xff", api.ErrRange},
	{leastConf[:9] + "\x00", api.ErrEmpty}, // starts
	{leastConf[:9] + "\x11", api.ErrMany},
	{leastConf[:9] + "\xff", api.ErrMany},
	{leastConf[:9] + "\x01\x01\x00\x00\x00\x00\x00", api.ErrRange},
	{leastConf[:9] + "\x01\x00\x00\x00\x00\x00\x01", api.ErrRange},
	{leastConf[:9] + "\x02\x00\xff\xff\xff\xff\x00\xff\x00\x00\x00\x00\x00", api.ErrRange},
	{pairsConf[:len(pairsConf)-12] + "\x01\xff\xff\xff\xfe\x04", api.ErrRange},
	{pairsConf[:len(pairsConf)-12] + "\x02\xff\xff\xff\xfe\x03", api.ErrRange},
	{pairsConf[:len(pairsConf)-1] + "\x04", api.ErrRange},
}

// choiceFaults are such texts of choices.
var choiceFaults = []fault{
	{"\x07\xd1", api.ErrMany},
	{"\x08\x00", api.ErrMany},
	{"\x42\x4b", api.ErrMany},
	{"\xff\xff", api.ErrMany},
	{"\x00\x01\x02\x00\x00", api.ErrKind},
	{"\x00\x01\xff\xff\xff", api.ErrKind},
	{"\x00\x02\x00\x01\x02\x03\x00\x00", api.ErrKind},
	{"\x00\x03\x01\x01\x02\x02\x00\x00", api.ErrKind},
	{"\x07\xd0\x02\x00\x00", api.ErrKind},
}

// behinds are what may stand behind a text.
var behinds = []string{"", "\x00", "\x01", "B", "\xff", "\x00\x00", "BK", leastConf, leastText, pairsText, strings.Repeat("\x00", 70), strings.Repeat("\xff", 700)}

// checked is what the chapter asks of Check.
func checked(s Script) api.Errno {
	if _, e := conf.Check(s.Conf); e != api.OK {
		return e
	}
	if _, e := choice.All(s.Choices); e != api.OK {
		return e
	}
	return api.OK
}

// written is what the chapter asks of Bytes, of what may be.
func written(s Script) string {
	b := append([]byte{66, 75}, conf.Bytes(s.Conf)...)
	b = append(b, byte(len(s.Choices)/256), byte(len(s.Choices)%256))
	for _, c := range s.Choices {
		if c.Kind == choice.Pick {
			b = append(b, 0, byte(c.V), byte(c.W))
		} else {
			b = append(b, 1, byte(c.V/256), byte(c.V%256))
		}
	}
	return string(b)
}

// read is what the chapter asks of Read.
func read(s string) (Script, api.Errno) {
	switch {
	case s == "" || s == "B":
		return Script{}, api.ErrEnd
	case len(s) < 2 || s[0] != 66 || s[1] != 75:
		return Script{}, api.ErrForm
	}
	c, at, e := conf.Read(s, 2)
	if e != api.OK {
		return Script{}, e
	}
	l, at, e := choice.Read(s, at)
	if e != api.OK {
		return Script{}, e
	}
	if at != len(s) {
		return Script{}, api.ErrMany
	}
	return Script{Conf: c, Choices: l}, api.OK
}

// alike tells whether two scripts are the same: a list that is nil is an empty one.
func alike(a, b Script) bool {
	return slices.EqualFunc(a.Conf.Progs, b.Conf.Progs, func(x, y []api.Instr) bool { return slices.Equal(x, y) }) && slices.Equal(a.Conf.Chans, b.Conf.Chans) &&
		slices.Equal(a.Conf.Bars, b.Conf.Bars) && a.Conf.Buckets == b.Conf.Buckets && slices.Equal(a.Conf.Starts, b.Conf.Starts) && slices.Equal(a.Choices, b.Choices)
}

// shown is the beginning of something's text.
func shown(x any) string { return fmt.Sprintf("%.400s", fmt.Sprintf("%+v", x)) }

// shielded is a list within longer memory, and what tells whether all of that is as it was.
func shielded[T any](l []T, odd T) ([]T, func() bool) {
	memory := slices.Concat([]T{odd}, l, []T{odd, odd})
	before := slices.Clone(memory)
	return memory[1 : 1+len(l)], func() bool { return reflect.DeepEqual(memory, before) }
}

// kept is a script in longer memory of its own, and what fails, unless all of that is as it was.
func kept(t *testing.T, s Script) (Script, func()) {
	t.Helper()
	var whole []func() bool
	own := Script{Conf: api.Config{Buckets: s.Conf.Buckets}}
	var programs [][]api.Instr
	for _, l := range s.Conf.Progs {
		l, is := shielded(l, emit)
		programs, whole = append(programs, l), append(whole, is)
	}
	var is [5]func() bool
	own.Conf.Progs, is[0] = shielded(programs, two)
	own.Conf.Chans, is[1] = shielded(s.Conf.Chans, api.Chan{Kind: 3, In: 71})
	own.Conf.Bars, is[2] = shielded(s.Conf.Bars, api.Barrier{Limit: 71})
	own.Conf.Starts, is[3] = shielded(s.Conf.Starts, api.Start{Arg: 71})
	own.Choices, is[4] = shielded(s.Choices, choice.Choice{Kind: 71, V: 72, W: 73})
	return own, func() {
		t.Helper()
		for i, is := range slices.Concat(is[:], whole) {
			if !is() {
				t.Errorf("it has written to what was handed in: memory %d of %s", i, shown(s))
			}
		}
	}
}

// spoil writes over all that was answered, and behind it, as far as there is memory.
func spoil(s Script) {
	for _, l := range s.Conf.Progs {
		clear(l[:cap(l)])
	}
	clear(s.Conf.Progs[:cap(s.Conf.Progs)])
	clear(s.Conf.Chans[:cap(s.Conf.Chans)])
	clear(s.Conf.Bars[:cap(s.Conf.Bars)])
	clear(s.Conf.Starts[:cap(s.Conf.Starts)])
	for i := range s.Choices[:cap(s.Choices)] {
		s.Choices[:cap(s.Choices)][i] = choice.Choice{Kind: 71}
	}
}

// checks fails, unless Check answers so; if that is an error, Bytes is to be empty, else not.
func checks(t *testing.T, s Script, want api.Errno) {
	t.Helper()
	own, check := kept(t, s)
	for _, x := range []Script{s, own, own} {
		if e := Check(x); e != want {
			t.Errorf("Check(%s): %d; want %d", shown(x), e, want)
		}
		if b := Bytes(x); (b == "") != (want != api.OK) {
			t.Errorf("Bytes(%s): %.400q", shown(x), b)
		}
	}
	check()
}

// writes fails, unless Check takes a script, and its bytes are these.
func writes(t *testing.T, s Script, want string) {
	t.Helper()
	checks(t, s, api.OK)
	own, check := kept(t, s)
	for _, x := range []Script{s, own, own} {
		if got := Bytes(x); got != want {
			t.Errorf("Bytes(%s): %.400q; want %.400q", shown(x), got, want)
		}
	}
	check()
}

// reads fails, unless Read answers so, each time in new memory.
func reads(t *testing.T, s string, want Script, err api.Errno) {
	t.Helper()
	for range 2 {
		got, e := Read(s)
		if !alike(got, want) || e != err {
			t.Errorf("Read(%.400q of %d): %s, %d; want %s, %d", s, len(s), shown(got), e, shown(want), err)
		}
		spoil(got)
	}
}

// refuses fails, unless Read answers this error, and the empty script.
func refuses(t *testing.T, s string, err api.Errno) {
	t.Helper()
	reads(t, s, Script{}, err)
}

// readsAnew fails, unless Read answers what the chapter asks for; and a script that is read is to have just these bytes. It tells whether there was one.
func readsAnew(t *testing.T, s string) bool {
	t.Helper()
	want, err := read(s)
	reads(t, s, want, err)
	if err != api.OK {
		return false
	}
	got, _ := Read(s)
	writes(t, got, s)
	return true
}

// holds fails, unless all that is told of a script is what the chapter asks for.
func holds(t *testing.T, s Script) {
	t.Helper()
	err := checked(s)
	checks(t, s, err)
	if err != api.OK {
		return
	}
	b := written(s)
	writes(t, s, b)
	reads(t, b, s, api.OK)
	if got, _ := Read(b); !Same(got, s) || !Same(s, got) {
		t.Errorf("what comes back from its bytes is not the same: %s; it was %s", shown(got), shown(s))
	}
}

// sames fails, unless Same answers so, both ways round.
func sames(t *testing.T, a, b Script, want bool) {
	t.Helper()
	x, first := kept(t, a)
	y, second := kept(t, b)
	for _, l := range [][2]Script{{a, b}, {b, a}, {x, y}, {y, x}, {x, b}, {y, a}} {
		if got := Same(l[0], l[1]); got != want {
			t.Errorf("Same(%s, %s): %v", shown(l[0]), shown(l[1]), got)
		}
	}
	first()
	second()
}

// The chapter's example.
func TestExample(t *testing.T) {
	text := string([]byte{66, 75, 1, 1, 1, 0, 0, 0, 0, 0, 0, 1, 0, 0, 0, 0, 0, 0, 0, 0})
	writes(t, least(), text)
	reads(t, text, least(), api.OK)
}

// P34.1, P34.2: a script with two of each part, byte by byte.
func TestPairs(t *testing.T) {
	writes(t, pairs(), pairsText)
	reads(t, pairsText, pairs(), api.OK)
	writes(t, least(), leastText)
	reads(t, leastText, least(), api.OK)
}

// P34.1, P34.2, P34.4: scripts of many kinds, with no choices, one, and many, come back from their bytes.
func TestGood(t *testing.T) {
	for _, s := range bases() {
		checks(t, s, api.OK)
		for _, l := range [][]choice.Choice{nil, {}, {{}}, {{V: 255, W: 255}}, {{Kind: choice.Tick, V: 65535}}, many(2), many(3), many(40), many(300)} {
			holds(t, picking(s, l))
			checks(t, picking(s, l), api.OK)
		}
	}
}

// P34.1, P34.2: no choices, as many as there may be, and more than that.
func TestHowMany(t *testing.T) {
	for _, s := range []Script{least(), pairs(), full()} {
		for _, n := range []int{0, 1, 2, 255, 256, 257, 1000, 1999, 2000} {
			holds(t, picking(s, many(n)))
			checks(t, picking(s, many(n)), api.OK)
		}
		for _, n := range []int{2001, 2002, 2048, 4000, 65535, 65536, 65537, 65536 + most} {
			checks(t, picking(s, many(n)), api.ErrMany)
			checks(t, picking(s, make([]choice.Choice, n)), api.ErrMany)
			checks(t, picking(s, with(many(n), 7, choice.Choice{Kind: 2})), api.ErrMany)
		}
	}
}

// P34.1: what there is that may not be, of each kind of fault, whatever the choices are: what is wrong with these comes behind it.
func TestWrongConf(t *testing.T) {
	for _, x := range wrongConfs() {
		for _, l := range [][]choice.Choice{nil, many(1), many(2000), many(2001)} {
			checks(t, Script{x.c, l}, x.e)
		}
		for _, y := range wrongChoices {
			checks(t, Script{x.c, []choice.Choice{y.c}}, x.e)
			checks(t, Script{x.c, with(many(5), 3, y.c)}, x.e)
		}
	}
}

// P34.1: choices that may not be, of each kind of fault, at each place; the first one of two is told.
func TestWrongChoices(t *testing.T) {
	for _, s := range []Script{least(), pairs(), full()} {
		for _, x := range wrongChoices {
			for n := 1; n <= 5; n++ {
				for at := range n {
					l := with(many(n), at, x.c)
					checks(t, picking(s, l), x.e)
					for next := at + 1; next < n; next++ {
						checks(t, picking(s, with(l, next, choice.Choice{Kind: 3})), x.e)
						checks(t, picking(s, with(l, next, choice.Choice{W: 300})), x.e)
					}
				}
			}
			checks(t, picking(s, with(many(2000), 1999, x.c)), x.e)
		}
	}
}

// P34.2: the empty text and a text of the first byte alone miss something; any other byte may not stand there.
func TestReadOneByte(t *testing.T) {
	refuses(t, "", api.ErrEnd)
	for n := range 256 {
		if n == 66 {
			refuses(t, string([]byte{66}), api.ErrEnd)
		} else {
			refuses(t, string([]byte{byte(n)}), api.ErrForm)
		}
	}
}

// P34.2: the first two bytes alone miss all that comes behind them; any two others may not stand there.
func TestReadTwoBytes(t *testing.T) {
	for n := range 65536 {
		want := api.ErrForm
		if n == 66*256+75 {
			want = api.ErrEnd
		}
		if s, e := Read(string([]byte{byte(n / 256), byte(n % 256)})); !alike(s, Script{}) || e != want {
			t.Errorf("Read of %d and %d: %s, %d; want %d", n/256, n%256, shown(s), e, want)
		}
	}
	refuses(t, "BK", api.ErrEnd)
}

// P34.2: other bytes at the beginning are told, whatever follows them.
func TestReadBeginning(t *testing.T) {
	rests := []string{"", leastText[2:], pairsText[2:], leastText[2:] + "\x00", "\x00", "\xff", "BK", leastText}
	for _, x := range confFaults {
		rests = append(rests, x.text)
	}
	for _, x := range choiceFaults {
		rests = append(rests, leastConf+x.text)
	}
	for _, rest := range rests {
		for _, head := range []string{"\x00\x00", "\xff\xff", "KB", "Bk", "bK", "bk", "BB", "KK", "B\x00", "\x00K", "CK", "BL", "AK", "BJ", "B\xcb", "\xc2K", " B", "\x01\x01"} {
			refuses(t, head+rest, api.ErrForm)
		}
	}
	refuses(t, leastConf+"\x00\x00", api.ErrForm) // a script without these two
	refuses(t, "K"+leastText, api.ErrForm)
	refuses(t, "B"+leastText, api.ErrForm)
}

// P34.2: texts that end ahead of each byte that is asked for, just behind what there is, and just behind the choices.
func TestReadCut(t *testing.T) {
	for _, s := range bases() {
		for _, l := range [][]choice.Choice{nil, many(1), many(7)} {
			s := picking(s, l)
			text := written(s)
			for n := range len(text) {
				if got, e := Read(text[:n]); !alike(got, Script{}) || e != api.ErrEnd {
					t.Errorf("Read(%.400q of %d): %s, %d", text[:n], n, shown(got), e)
				}
			}
			end := 2 + len(conf.Bytes(s.Conf))
			refuses(t, text[:end], api.ErrEnd)
			refuses(t, text[:end+1], api.ErrEnd)
			reads(t, text[:end]+"\x00\x00", picking(s, nil), api.OK)
			reads(t, text, s, api.OK)
		}
	}
	text := written(picking(pairs(), many(2000)))
	for _, n := range []int{len(pairsConf) + 2, len(pairsConf) + 4, len(pairsConf) + 5, 3000, len(text) - 3, len(text) - 2, len(text) - 1} {
		refuses(t, text[:n], api.ErrEnd)
	}
}

// P34.2: each fault of what there is, at its place, as soon as it is read, and whatever stands behind it; ahead of it something is missing.
func TestReadWrongConf(t *testing.T) {
	for _, x := range confFaults {
		refuses(t, "BK"+x.text[:len(x.text)-1], api.ErrEnd)
		for _, behind := range behinds {
			refuses(t, "BK"+x.text+behind, x.e)
		}
		for _, y := range choiceFaults {
			refuses(t, "BK"+x.text+y.text, x.e)
		}
	}
}

// P34.2: each fault of the choices, at its place, as soon as it is read, and whatever stands behind it; ahead of it something is missing.
func TestReadWrongChoices(t *testing.T) {
	for _, s := range bases() {
		head := "BK" + conf.Bytes(s.Conf)
		for _, x := range choiceFaults {
			refuses(t, head+x.text[:len(x.text)-1], api.ErrEnd)
			for _, behind := range behinds {
				refuses(t, head+x.text+behind, x.e)
			}
		}
	}
	full := written(picking(least(), many(2000)))
	for _, at := range []int{0, 1, 999, 1998, 1999} {
		own := []byte(full)
		own[len(leastText)+3*at] = 2
		refuses(t, string(own), api.ErrKind)
		refuses(t, string(own)+"\x00", api.ErrKind)
		refuses(t, string(own[:len(leastText)+3*at+2]), api.ErrEnd)
	}
}

// P34.2: each byte that is left over, many of them, and another script.
func TestReadLeft(t *testing.T) {
	for _, s := range bases() {
		for _, l := range [][]choice.Choice{nil, many(1), many(4)} {
			text := written(picking(s, l))
			for n := range 256 {
				if got, e := Read(text + string([]byte{byte(n)})); !alike(got, Script{}) || e != api.ErrMany {
					t.Errorf("Read(%.400q and %d): %s, %d", text, n, shown(got), e)
				}
			}
			for _, behind := range behinds[1:] {
				refuses(t, text+behind, api.ErrMany)
			}
			refuses(t, text+text, api.ErrMany)
		}
	}
	text := written(picking(pairs(), many(2000)))
	refuses(t, text+"\x00", api.ErrMany)
	refuses(t, text+"\x00\x00\x00", api.ErrMany)
	refuses(t, leastText[:len(leastText)-1]+"\x01"+"\x00\x00\x00\x00", api.ErrMany) // a choice, and a byte
	refuses(t, leastText[:len(leastText)-1]+"\x01"+"\x00\x00", api.ErrEnd)
}

// P34.2: of what there is, the choices, and what is left over, that which comes first is told.
func TestReadOrder(t *testing.T) {
	empty := "BK\x00"
	kind := "\x00\x01\x02\x00\x00"
	refuses(t, empty, api.ErrEmpty)
	refuses(t, empty+kind+"\x00", api.ErrEmpty)
	refuses(t, "BL\x00"+kind+"\x00", api.ErrForm)
	refuses(t, "BK"+leastConf+kind+"\x00", api.ErrKind)
	refuses(t, "BK"+leastConf+"\x00\x02\x00\x00\x00", api.ErrEnd)
	refuses(t, "BK"+leastConf+"\x00\x00\x00", api.ErrMany)
	refuses(t, "BK"+leastConf[:8]+"\x05\x00"+kind, api.ErrRange)
	refuses(t, "BK"+leastConf[:6]+"\x01\x04\x00\x00", api.ErrEnd)
}

// P34.3: scripts that are the same, whether their lists are nil or just empty.
func TestSame(t *testing.T) {
	for _, s := range bases() {
		for _, l := range [][]choice.Choice{nil, many(1), many(40)} {
			own, _ := kept(t, picking(s, l))
			sames(t, picking(s, l), own, true)
		}
	}
	bare := least()
	bare.Conf.Chans, bare.Conf.Bars, bare.Choices = []api.Chan{}, []api.Barrier{}, []choice.Choice{}
	sames(t, bare, least(), true)
	sames(t, Script{}, Script{}, true)
	sames(t, Script{Choices: []choice.Choice{}}, Script{Conf: api.Config{Progs: [][]api.Instr{}, Starts: []api.Start{}}}, true)
	sames(t, picking(full(), many(2000)), picking(full(), many(2000)), true)
}

// P34.3: scripts that differ in one part only, in each part, and in the order of something.
func TestDiffer(t *testing.T) {
	var other []Script
	add := func(do func(s *Script)) {
		s := pairs()
		do(&s)
		other = append(other, s)
	}
	add(func(s *Script) { s.Conf.Progs[0] = two })
	add(func(s *Script) { s.Conf.Progs[1] = []api.Instr{halt, emit} })
	add(func(s *Script) { s.Conf.Progs[1] = nil })
	add(func(s *Script) { slices.Reverse(s.Conf.Progs) })
	add(func(s *Script) { s.Conf.Progs = append(s.Conf.Progs, one) })
	add(func(s *Script) { s.Conf.Chans[0].Kind = 3 })
	add(func(s *Script) { s.Conf.Chans[1].Room = 7 })
	add(func(s *Script) { s.Conf.Chans[0].In = 5 })
	add(func(s *Script) { s.Conf.Chans[1].Out = 1 })
	add(func(s *Script) { slices.Reverse(s.Conf.Chans) })
	add(func(s *Script) { s.Conf.Chans = s.Conf.Chans[:1] })
	add(func(s *Script) { s.Conf.Bars[0].Alting = false })
	add(func(s *Script) { s.Conf.Bars[1].Limit = 10 })
	add(func(s *Script) { slices.Reverse(s.Conf.Bars) })
	add(func(s *Script) { s.Conf.Bars = append(s.Conf.Bars, api.Barrier{Limit: 9}) })
	add(func(s *Script) { s.Conf.Buckets = 3 })
	add(func(s *Script) { s.Conf.Starts[0].Prog = 0 })
	add(func(s *Script) { s.Conf.Starts[0].Arg = 2 })
	add(func(s *Script) { s.Conf.Starts[1].Bars = 1 })
	add(func(s *Script) { slices.Reverse(s.Conf.Starts) })
	add(func(s *Script) { s.Conf.Starts = s.Conf.Starts[1:] })
	add(func(s *Script) { s.Choices[0].Kind = choice.Pick })
	add(func(s *Script) { s.Choices[1].Kind = choice.Tick })
	add(func(s *Script) { s.Choices[0].V = 259 })
	add(func(s *Script) { s.Choices[1].V = 0 })
	add(func(s *Script) { s.Choices[1].W = 254 })
	add(func(s *Script) { s.Choices[0].W = 1 }) // which may not be: but Same asks nothing of that
	add(func(s *Script) { slices.Reverse(s.Choices) })
	add(func(s *Script) { s.Choices = s.Choices[:1] })
	add(func(s *Script) { s.Choices = s.Choices[1:] })
	add(func(s *Script) { s.Choices = nil })
	add(func(s *Script) { s.Choices = append(s.Choices, choice.Choice{}) })
	add(func(s *Script) { s.Choices = append([]choice.Choice{{}}, s.Choices...) })
	for i, a := range other {
		sames(t, a, pairs(), false)
		for j, b := range other {
			sames(t, a, b, i == j)
		}
	}
}

// P34.3: such as may not be are the same, or not, like others.
func TestSameWrong(t *testing.T) {
	for i, x := range wrongConfs() {
		own, _ := kept(t, Script{x.c, many(3)})
		sames(t, Script{x.c, many(3)}, own, true)
		sames(t, Script{x.c, many(3)}, Script{x.c, many(2)}, false)
		if i > 0 {
			sames(t, Script{x.c, many(3)}, Script{Conf: pairs().Conf, Choices: many(3)}, false)
		}
	}
	for _, x := range wrongChoices {
		s := picking(pairs(), []choice.Choice{{}, x.c})
		own, _ := kept(t, s)
		sames(t, s, own, true)
		sames(t, s, picking(pairs(), []choice.Choice{x.c, {}}), false)
		sames(t, s, picking(least(), s.Choices), false)
	}
	sames(t, picking(least(), many(2001)), picking(least(), many(2001)), true)
	sames(t, picking(least(), many(2001)), picking(least(), with(many(2001), 2000, choice.Choice{W: 9})), false)
}

// P34.4: each byte of a script counts: with another one there another script is told, or none.
func TestReadOther(t *testing.T) {
	for _, s := range []Script{least(), pairs(), picking(bases()[5], many(3))} {
		text := written(s)
		for at := range len(text) {
			for n := range 256 {
				own := []byte(text)
				own[at] = byte(n)
				readsAnew(t, string(own))
				if got, e := Read(string(own)); e == api.OK && Same(got, s) != (string(own) == text) {
					t.Errorf("Read(%q): %s", own, shown(got))
				}
			}
		}
	}
}

// byChance is a script that may be, by chance.
func byChance(r *rand.Rand) Script {
	programs := [][]api.Instr{one, two, alts, {{Op: opcode.Jmp}}, {{}, halt}, long}
	c := api.Config{Buckets: r.Intn(5)}
	for range 1 + r.Intn(8) {
		c.Progs = append(c.Progs, programs[r.Intn(len(programs))])
	}
	for range r.Intn(9) {
		c.Chans = append(c.Chans, api.Chan{Kind: r.Intn(4), Room: r.Intn(9), In: r.Intn(256), Out: r.Intn(256)})
	}
	for range r.Intn(9) {
		c.Bars = append(c.Bars, api.Barrier{Alting: r.Intn(2) == 0, Limit: 1 + r.Intn(65535)>>r.Intn(16)})
	}
	for range 1 + r.Intn(16) {
		c.Starts = append(c.Starts, api.Start{Prog: r.Intn(len(c.Progs)), Arg: low + r.Intn(1<<32), Bars: r.Intn(1 << len(c.Bars))})
	}
	var l []choice.Choice
	for range r.Intn(1 + r.Intn(60)) {
		if r.Intn(2) == 0 {
			l = append(l, choice.Choice{V: r.Intn(256), W: r.Intn(256)})
		} else {
			l = append(l, choice.Choice{Kind: choice.Tick, V: r.Intn(65536)})
		}
	}
	return Script{c, l}
}

// P34.4: scripts by chance come back from their bytes, and no two of them have the same.
func TestByChance(t *testing.T) {
	r := rand.New(rand.NewSource(34))
	seen := map[string]Script{}
	for range 2000 {
		s := byChance(r)
		holds(t, s)
		b := Bytes(s)
		if other, is := seen[b]; is && !alike(s, other) {
			t.Errorf("%.400q are the bytes of %s and of %s", b, shown(s), shown(other))
		}
		seen[b] = s
	}
}

// P34.1, P34.3: scripts by chance whose parts may not be.
func TestWrongByChance(t *testing.T) {
	r := rand.New(rand.NewSource(341))
	confs := wrongConfs()
	for range 2000 {
		s, other := byChance(r), byChance(r)
		if r.Intn(3) == 0 {
			s.Conf = confs[r.Intn(len(confs))].c
		}
		if len(s.Choices) > 0 && r.Intn(2) == 0 {
			s.Choices = with(s.Choices, r.Intn(len(s.Choices)), wrongChoices[r.Intn(len(wrongChoices))].c)
		}
		holds(t, s)
		sames(t, s, other, alike(s, other))
		sames(t, s, Script{s.Conf, other.Choices}, slices.Equal(s.Choices, other.Choices))
		sames(t, s, Script{other.Conf, s.Choices}, alike(s, Script{other.Conf, s.Choices}))
	}
}

// P34.2, P34.4: texts of scripts by chance, of which something was changed, left out, put in, or put behind them.
func TestTextsByChance(t *testing.T) {
	r := rand.New(rand.NewSource(342))
	var went, came int
	for range 6000 {
		b := []byte(written(byChance(r)))
		for range 1 + r.Intn(2) {
			at := r.Intn(len(b))
			switch r.Intn(5) {
			case 0:
				b[at] = byte(r.Intn(256))
			case 1:
				b[at] = byte(r.Intn(3))
			case 2:
				b = slices.Delete(b, at, min(len(b), at+1+r.Intn(3)))
			case 3:
				b = slices.Insert(b, at, byte(r.Intn(3)))
			case 4:
				b = append(b, byte(r.Intn(3)))
			}
			if len(b) == 0 {
				break
			}
		}
		if readsAnew(t, string(b)) {
			came++
		} else {
			went++
		}
	}
	if went < 1000 || came < 400 {
		t.Errorf("%d are refused, %d come back", went, came)
	}
}

// P34.4: all short texts behind what there is are refused, or come back.
func TestShortTexts(t *testing.T) {
	bytes := []byte{0, 1, 2, 7, 255}
	var came int
	var all func(s string)
	all = func(s string) {
		if readsAnew(t, "BK"+leastConf+s) {
			came++
		}
		readsAnew(t, s)
		readsAnew(t, "BK"+s)
		if len(s) == 5 {
			return
		}
		for _, b := range bytes {
			all(s + string([]byte{b}))
		}
	}
	all("")
	if came != 1+2*25 { // no choices, or one: of two kinds, and five numbers at each of two places
		t.Errorf("%d come back", came)
	}
}
