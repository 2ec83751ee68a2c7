package choice

import (
	"fmt"
	"math"
	"math/rand"
	"slices"
	"strings"
	"testing"

	"becket/api"
)

// The kinds, and how many choices there may be, as the chapter has them.
const (
	pick = 0
	tick = 1
	most = 2000
)

// far are numbers that are none of anything that stands in a byte, or in two: the ends of int, and such as may be, when they are cut to fewer bits.
var far = []int{math.MinInt, math.MinInt + 1, math.MinInt + 3, -1 << 62, -1 << 40, -1<<32 - 1, -1 << 32, -1<<32 + 1, -65536, -65535, -256, -255, -2, -1, 65536, 65537, 65539, 1 << 31, 1<<32 - 1, 1 << 32, 1<<32 + 1, 1<<32 + 3, 1 << 40, 1 << 62, math.MaxInt - 1, math.MaxInt}

// some are numbers at the edges of what may stand in a byte, or in two.
var some = []int{0, 1, 2, 7, 127, 128, 254, 255}

// wrong are choices that may not be, with the error of each.
func wrong() map[Choice]api.Errno {
	l := map[Choice]api.Errno{
		{Kind: 2, V: 256, W: 256}:       api.ErrKind,
		{Kind: 2, V: -1, W: -1}:         api.ErrKind,
		{Kind: -1, V: 65536, W: 1}:      api.ErrKind,
		{Kind: pick, V: -1, W: -1}:      api.ErrRange,
		{Kind: pick, V: 256, W: 256}:    api.ErrRange,
		{Kind: pick, V: -1, W: 256}:     api.ErrRange,
		{Kind: pick, V: 256, W: -1}:     api.ErrRange,
		{Kind: pick, V: 65535}:          api.ErrRange,
		{Kind: tick, V: -1, W: -1}:      api.ErrRange,
		{Kind: tick, V: 65536, W: 1}:    api.ErrRange,
		{Kind: tick, V: -1, W: 1}:       api.ErrRange,
		{Kind: tick, V: 65536, W: -1}:   api.ErrRange,
		{Kind: tick, V: 255, W: 255}:    api.ErrRange,
		{Kind: tick, V: 65535, W: 255}:  api.ErrRange,
		{Kind: 255, V: 255, W: 255}:     api.ErrKind,
		{Kind: 256, V: 1, W: 2}:         api.ErrKind,
		{Kind: 257, V: 1}:               api.ErrKind,
		{Kind: math.MinInt, V: 7}:       api.ErrKind,
		{Kind: math.MaxInt, V: 7, W: 9}: api.ErrKind,
	}
	for _, n := range append(far, 2, 3, 128, 254, 255, 256, 257) {
		l[Choice{Kind: n}] = api.ErrKind
		l[Choice{Kind: n, V: 3, W: 4}] = api.ErrKind
	}
	for _, n := range append(far, 256, 257, 258, 300, 511, 512, 32768, 65535) {
		l[Choice{Kind: pick, V: n}] = api.ErrRange
		l[Choice{Kind: pick, V: n, W: 255}] = api.ErrRange
		l[Choice{Kind: pick, W: n}] = api.ErrRange
		l[Choice{Kind: pick, V: 255, W: n}] = api.ErrRange
	}
	for _, n := range append(far, 65540, 131071, 131072) {
		l[Choice{Kind: tick, V: n}] = api.ErrRange
		l[Choice{Kind: tick, V: n, W: 9}] = api.ErrRange
	}
	for _, n := range append(far, 1, 2, 3, 128, 255, 256, 257, 65535) {
		l[Choice{Kind: tick, W: n}] = api.ErrRange
		l[Choice{Kind: tick, V: 258, W: n}] = api.ErrRange
		l[Choice{Kind: tick, V: 65535, W: n}] = api.ErrRange
	}
	return l
}

// few are choices with their bytes: ordinary ones, and those at the edges.
var few = []struct {
	l    []Choice
	text string
}{
	{nil, "\x00\x00"},
	{[]Choice{}, "\x00\x00"},
	{[]Choice{{}}, "\x00\x01\x00\x00\x00"},
	{[]Choice{{Kind: pick, V: 3}}, "\x00\x01\x00\x03\x00"},
	{[]Choice{{Kind: pick, W: 3}}, "\x00\x01\x00\x00\x03"},
	{[]Choice{{Kind: pick, V: 255}}, "\x00\x01\x00\xff\x00"},
	{[]Choice{{Kind: pick, W: 255}}, "\x00\x01\x00\x00\xff"},
	{[]Choice{{Kind: pick, V: 255, W: 255}}, "\x00\x01\x00\xff\xff"},
	{[]Choice{{Kind: pick, V: 128, W: 127}}, "\x00\x01\x00\x80\x7f"},
	{[]Choice{{Kind: tick}}, "\x00\x01\x01\x00\x00"},
	{[]Choice{{Kind: tick, V: 1}}, "\x00\x01\x01\x00\x01"},
	{[]Choice{{Kind: tick, V: 255}}, "\x00\x01\x01\x00\xff"},
	{[]Choice{{Kind: tick, V: 256}}, "\x00\x01\x01\x01\x00"},
	{[]Choice{{Kind: tick, V: 258}}, "\x00\x01\x01\x01\x02"},
	{[]Choice{{Kind: tick, V: 32768}}, "\x00\x01\x01\x80\x00"},
	{[]Choice{{Kind: tick, V: 65280}}, "\x00\x01\x01\xff\x00"},
	{[]Choice{{Kind: tick, V: 65535}}, "\x00\x01\x01\xff\xff"},
	{[]Choice{{Kind: pick, V: 1, W: 2}, {Kind: tick, V: 258}}, "\x00\x02\x00\x01\x02\x01\x01\x02"},
	{[]Choice{{Kind: tick, V: 258}, {Kind: pick, V: 1, W: 2}}, "\x00\x02\x01\x01\x02\x00\x01\x02"},
	{[]Choice{{Kind: pick, V: 2, W: 1}, {}, {Kind: tick, V: 9}, {Kind: tick}, {Kind: pick, V: 7}}, "\x00\x05\x00\x02\x01\x00\x00\x00\x01\x00\x09\x01\x00\x00\x00\x07\x00"},
}

// cut are texts of which something is missing, or wrong, at their beginning.
var cut = []struct {
	text string
	e    api.Errno
}{
	{"", api.ErrEnd},
	{"\x00", api.ErrEnd},
	{"\x07", api.ErrEnd},
	{"\x08", api.ErrEnd}, // its number would be too great
	{"\xff", api.ErrEnd},
	{"\x00\x01", api.ErrEnd},
	{"\x00\x01\x00", api.ErrEnd},
	{"\x00\x01\x00\x00", api.ErrEnd},
	{"\x00\x01\x02", api.ErrEnd}, // a kind that there is not, which is not asked yet
	{"\x00\x01\x02\x00", api.ErrEnd},
	{"\x00\x01\x02\x00\x00", api.ErrKind},
	{"\x00\x01\x03\x00\x00", api.ErrKind},
	{"\x00\x01\x80\x00\x00", api.ErrKind},
	{"\x00\x01\xff\xff\xff", api.ErrKind},
	{"\x00\x02\x00\x00\x00", api.ErrEnd},
	{"\x00\x02\x01\x00\x00\x01", api.ErrEnd},
	{"\x00\x02\x01\x00\x00\x01\x00", api.ErrEnd},
	{"\x00\x02\x00\x00\x00\x02\x00", api.ErrEnd},
	{"\x00\x02\x00\x00\x00\x02\x00\x00", api.ErrKind},
	{"\x00\x02\x02\x00\x00", api.ErrKind}, // the second one is missing, which is not asked any more
	{"\x00\x03\x00\x00\x00\x02\x00\x00", api.ErrKind},
	{"\x00\x03\x00\x00\x00\x00\x00\x00\xff\xff", api.ErrEnd},
	{"\x07\xd0", api.ErrEnd},
	{"\x07\xd0\x02\x00\x00", api.ErrKind},
	{"\x07\xd1", api.ErrMany},
	{"\x07\xd1\x02\x00\x00", api.ErrMany},
	{"\x08\x00", api.ErrMany},
	{"\x08\x01\x00\x00\x00", api.ErrMany},
	{"\xff\x00", api.ErrMany},
	{"\xff\xff", api.ErrMany},
	{"\xff\xff\x02", api.ErrMany},
}

// many are so many choices, each of which may be.
func many(n int) []Choice {
	var l []Choice
	for i := range n {
		switch i % 3 {
		case 0:
			l = append(l, Choice{Kind: pick, V: i % 256, W: (i*7 + 3) % 256})
		case 1:
			l = append(l, Choice{Kind: tick, V: i * 31 % 65536})
		case 2:
			l = append(l, Choice{Kind: tick, V: 65535 - i})
		}
	}
	return l
}

// byChance is a choice that may be, by chance.
func byChance(r *rand.Rand) Choice {
	if r.Intn(2) == 0 {
		return Choice{Kind: tick, V: r.Intn(65536) >> r.Intn(16)}
	}
	return Choice{Kind: pick, V: r.Intn(256), W: r.Intn(256) >> r.Intn(9)}
}

// with is a list of its own with another choice at a place.
func with(l []Choice, at int, c Choice) []Choice {
	own := slices.Clone(l)
	own[at] = c
	return own
}

// checked is what the chapter asks of Check.
func checked(c Choice) api.Errno {
	if c.Kind != pick && c.Kind != tick {
		return api.ErrKind
	}
	if c.V < 0 || c.Kind == pick && (c.V > 255 || c.W < 0 || c.W > 255) || c.Kind == tick && (c.V > 65535 || c.W != 0) {
		return api.ErrRange
	}
	return api.OK
}

// taken is what the chapter asks of All.
func taken(l []Choice) (int, api.Errno) {
	if len(l) > most {
		return most, api.ErrMany
	}
	at := slices.IndexFunc(l, func(c Choice) bool { return checked(c) != api.OK })
	if at < 0 {
		return 0, api.OK
	}
	return at, checked(l[at])
}

// written is what the chapter asks of Bytes, of what may be.
func written(l []Choice) string {
	b := []byte{byte(len(l) / 256), byte(len(l) % 256)}
	for _, c := range l {
		if c.Kind == pick {
			b = append(b, 0, byte(c.V), byte(c.W))
		} else {
			b = append(b, 1, byte(c.V/256), byte(c.V%256))
		}
	}
	return string(b)
}

// read is what the chapter asks of Read.
func read(s string, at int) ([]Choice, int, api.Errno) {
	if at < 0 || at > len(s) {
		return nil, 0, api.ErrRange
	}
	if at+2 > len(s) {
		return nil, 0, api.ErrEnd
	}
	n := int(s[at])*256 + int(s[at+1])
	if n > most {
		return nil, 0, api.ErrMany
	}
	at += 2
	var l []Choice
	for range n {
		if at+3 > len(s) {
			return nil, 0, api.ErrEnd
		}
		kind, v, w := int(s[at]), int(s[at+1]), int(s[at+2])
		if kind == tick {
			v, w = v*256+w, 0
		}
		if kind > tick {
			return nil, 0, api.ErrKind
		}
		l, at = append(l, Choice{Kind: kind, V: v, W: w}), at+3
	}
	return l, at, api.OK
}

// shown is the beginning of something's text.
func shown(x any) string { return fmt.Sprintf("%.400s", fmt.Sprintf("%+v", x)) }

// kept is a list in longer memory, and what fails, unless all of that is as it was.
func kept(t *testing.T, l []Choice) ([]Choice, func()) {
	t.Helper()
	odd := Choice{Kind: 71, V: 72, W: 73}
	memory := slices.Concat([]Choice{odd}, l, []Choice{odd, odd})
	before := slices.Clone(memory)
	return memory[1 : 1+len(l)], func() {
		t.Helper()
		if !slices.Equal(memory, before) {
			t.Errorf("it has written to what was handed in: %s; it was %s", shown(memory), shown(before))
		}
	}
}

// checks fails, unless Check answers so, and All and Bytes go along with it.
func checks(t *testing.T, c Choice, want api.Errno) {
	t.Helper()
	for range 2 {
		if e := Check(c); e != want {
			t.Errorf("Check(%+v): %d; want %d", c, e, want)
		}
	}
	alls(t, []Choice{c}, 0, want)
}

// alls fails, unless All answers so; if that is an error, Bytes is to be empty.
func alls(t *testing.T, l []Choice, at int, err api.Errno) {
	t.Helper()
	own, check := kept(t, l)
	for _, x := range [][]Choice{l, own, own} {
		if n, e := All(x); n != at || e != err {
			t.Errorf("All(%s): %d, %d; want %d, %d", shown(x), n, e, at, err)
		}
		if s := Bytes(x); (s == "") != (err != api.OK) {
			t.Errorf("Bytes(%s): %.400q", shown(x), s)
		}
	}
	check()
}

// writes fails, unless All takes a list, and its bytes are these.
func writes(t *testing.T, l []Choice, want string) {
	t.Helper()
	alls(t, l, 0, api.OK)
	own, check := kept(t, l)
	for _, x := range [][]Choice{l, own, own} {
		if got := Bytes(x); got != want {
			t.Errorf("Bytes(%s): %.400q; want %.400q", shown(x), got, want)
		}
	}
	check()
}

// reads fails, unless Read answers so, each time in new memory.
func reads(t *testing.T, s string, at int, want []Choice, behind int, err api.Errno) {
	t.Helper()
	for range 2 {
		got, n, e := Read(s, at)
		if !slices.Equal(got, want) || n != behind || e != err {
			t.Errorf("Read(%.400q of %d, %d): %s, %d, %d; want %s, %d, %d", s, len(s), at, shown(got), n, e, shown(want), behind, err)
		}
		for i := range got[:cap(got)] {
			got[:cap(got)][i] = Choice{Kind: 71, V: 72, W: 73}
		}
	}
}

// refuses fails, unless Read answers this error, and nothing else.
func refuses(t *testing.T, s string, at int, err api.Errno) {
	t.Helper()
	reads(t, s, at, nil, 0, err)
}

// readsAnew fails, unless Read answers what the chapter asks for; and the bytes of what it reads are to be just those that it has read. It tells whether there was something.
func readsAnew(t *testing.T, s string, at int) bool {
	t.Helper()
	want, behind, err := read(s, at)
	reads(t, s, at, want, behind, err)
	if err != api.OK {
		return false
	}
	writes(t, want, s[at:behind])
	return true
}

// holds fails, unless all that is told of choices is what the chapter asks for.
func holds(t *testing.T, l []Choice) {
	t.Helper()
	at, err := taken(l)
	alls(t, l, at, err)
	if err != api.OK {
		return
	}
	s := written(l)
	writes(t, l, s)
	reads(t, s, 0, l, len(s), api.OK)
}

// The chapter's example.
func TestExample(t *testing.T) {
	writes(t, []Choice{{Kind: Tick, V: 258}}, "\x00\x01\x01\x01\x02")
	reads(t, "\x00\x01\x01\x01\x02", 0, []Choice{{Kind: Tick, V: 258}}, 5, api.OK)
}

// The kinds are those numbers, and so many choices may be.
func TestKinds(t *testing.T) {
	if Pick != pick || Tick != tick || api.MaxChoices != most {
		t.Errorf("the kinds: %d, %d; so many: %d", Pick, Tick, api.MaxChoices)
	}
}

// P33.1: every pick that may be.
func TestPicks(t *testing.T) {
	for v := range 256 {
		for w := range 256 {
			if e := Check(Choice{Kind: pick, V: v, W: w}); e != api.OK {
				t.Errorf("Check of a pick of %d, %d: %d", v, w, e)
			}
		}
		checks(t, Choice{Kind: pick, V: v}, api.OK)
		checks(t, Choice{Kind: pick, W: v}, api.OK)
	}
}

// P33.1: every tick that may be.
func TestTicks(t *testing.T) {
	for v := range 65536 {
		if e := Check(Choice{Kind: tick, V: v}); e != api.OK {
			t.Errorf("Check of a tick of %d: %d", v, e)
		}
	}
	for _, v := range append(some, 256, 257, 258, 32767, 32768, 65534, 65535) {
		checks(t, Choice{Kind: tick, V: v}, api.OK)
	}
}

// P33.1: choices that may not be: an unknown kind is told ahead of wrong numbers.
func TestWrong(t *testing.T) {
	for c, e := range wrong() {
		checks(t, c, e)
	}
}

// P33.1: all kinds with all numbers about the limits.
func TestEdges(t *testing.T) {
	near := []int{-2, -1, 0, 1, 2, 254, 255, 256, 257, 65534, 65535, 65536, 65537}
	for _, kind := range near {
		for _, v := range near {
			for _, w := range near {
				c := Choice{Kind: kind, V: v, W: w}
				checks(t, c, checked(c))
			}
		}
	}
}

// P33.1: no choices, one, 2000 and 2001.
func TestHowMany(t *testing.T) {
	for _, n := range []int{0, 1, 2, 3, 255, 256, 257, 1023, 1998, 1999, 2000} {
		holds(t, many(n))
		alls(t, many(n), 0, api.OK)
	}
	for _, n := range []int{2001, 2002, 2047, 2048, 2049, 4000, 65535, 65536, 65537, 65536 + 2000, 1 << 17} {
		alls(t, many(n), 2000, api.ErrMany)
		alls(t, make([]Choice, n), 2000, api.ErrMany)
	}
}

// P33.1: more than 2000 choices, of which some may not be: that there are too many is told.
func TestManyAndWrong(t *testing.T) {
	for _, n := range []int{2001, 2002, 3000} {
		for _, at := range []int{0, 1, n / 2, 1999, 2000, n - 1} {
			alls(t, with(many(n), at, Choice{Kind: 2}), 2000, api.ErrMany)
			alls(t, with(many(n), at, Choice{V: 256}), 2000, api.ErrMany)
			alls(t, with(with(many(n), 0, Choice{Kind: 2}), at, Choice{Kind: tick, W: 1}), 2000, api.ErrMany)
		}
	}
}

// P33.1: one that may not be, at each place of a few, and first, in the middle and last of many; the first one of two is told.
func TestWrongPlace(t *testing.T) {
	for c, e := range wrong() {
		for n := 1; n <= 5; n++ {
			for at := range n {
				l := with(many(n), at, c)
				alls(t, l, at, e)
				for next := at + 1; next < n; next++ {
					alls(t, with(l, next, Choice{Kind: 2}), at, e)
					alls(t, with(l, next, Choice{V: -1}), at, e)
				}
			}
		}
	}
	full := many(2000)
	for _, c := range []Choice{{Kind: 2}, {Kind: -1}, {V: 256}, {W: -1}, {Kind: tick, V: 65536}, {Kind: tick, W: 1}} {
		for _, at := range []int{0, 1, 255, 256, 999, 1000, 1998, 1999} {
			alls(t, with(full, at, c), at, checked(c))
			alls(t, with(with(full, 1999, Choice{Kind: 3}), at, c), at, checked(c))
		}
	}
}

// P33.2: choices with their bytes, and back.
func TestFew(t *testing.T) {
	for _, x := range few {
		writes(t, x.l, x.text)
		reads(t, x.text, 0, x.l, len(x.text), api.OK)
		holds(t, x.l)
	}
}

// P33.2: each pick and each tick has its own three bytes.
func TestOne(t *testing.T) {
	for n := range 65536 {
		for _, c := range []Choice{{Kind: pick, V: n / 256, W: n % 256}, {Kind: tick, V: n}} {
			want := string([]byte{0, 1, byte(c.Kind), byte(n / 256), byte(n % 256)})
			if got := Bytes([]Choice{c}); got != want {
				t.Fatalf("Bytes of %+v: %q; want %q", c, got, want)
			}
			if l, behind, e := Read(want, 0); len(l) != 1 || l[0] != c || behind != 5 || e != api.OK {
				t.Fatalf("Read(%q): %s, %d, %d", want, shown(l), behind, e)
			}
		}
	}
}

// P33.2: read at the start, in the middle and at the end of a text, with the place behind.
func TestReadPlace(t *testing.T) {
	for _, x := range few {
		for _, ahead := range []string{"", "\x00", "\xff", "\x00\x01", "\x07\xd1\x02", strings.Repeat("\xff", 700)} {
			for _, behind := range []string{"", "\x00", "\x01\x00", "\x02\x00\x00", "\x00\x01\x01\x01\x02", strings.Repeat("\xff", 700)} {
				reads(t, ahead+x.text+behind, len(ahead), x.l, len(ahead)+len(x.text), api.OK)
			}
		}
	}
	s := ""
	for _, x := range few {
		s += x.text
	}
	at := 0
	for _, x := range few { // one list behind the other
		reads(t, s, at, x.l, at+len(x.text), api.OK)
		at += len(x.text)
	}
	refuses(t, s, at, api.ErrEnd)
}

// P33.2: a place below 0 or behind the end comes ahead of all else, and at the end of the text nothing is there.
func TestReadRange(t *testing.T) {
	for _, s := range []string{"", "\x00", "\x00\x00", "\x00\x00\x00\x00", "\x00\x01\x01\x01\x02", "\xff\xff", "\x00\x01\x02\x00\x00", written(many(2000))} {
		for _, at := range []int{math.MinInt, math.MinInt + 1, -1 << 40, -65536, -256, -3, -2, -1, len(s) + 1, len(s) + 2, len(s) + 3, len(s) + 256, 1 << 32, 1 << 40, math.MaxInt - 2, math.MaxInt - 1, math.MaxInt} {
			refuses(t, s, at, api.ErrRange)
		}
		refuses(t, s, len(s), api.ErrEnd)
	}
}

// P33.2: what is missing or wrong first, byte by byte, wherever it stands.
func TestReadWrong(t *testing.T) {
	for _, x := range cut {
		refuses(t, x.text, 0, x.e)
		refuses(t, "\x00\x00\x00"+x.text, 3, x.e)
		refuses(t, strings.Repeat("\xff", 9)+x.text, 9, x.e)
	}
}

// P33.2: texts that end ahead of each byte that is asked for.
func TestReadCut(t *testing.T) {
	for _, l := range [][]Choice{few[len(few)-1].l, many(1), many(2), many(40), many(300)} {
		s := written(l)
		for n := range len(s) {
			refuses(t, s[:n], 0, api.ErrEnd)
			refuses(t, "\x01\x02"+s[:n], 2, api.ErrEnd)
		}
		for at := range len(s) { // what stands further on is read just as well
			readsAnew(t, s, at)
		}
	}
	s := written(many(2000))
	for _, n := range []int{0, 1, 2, 3, 4, 5, 3000, 5996, 5998, 5999, 6000, 6001} {
		refuses(t, s[:n], 0, api.ErrEnd)
	}
	reads(t, s, 0, many(2000), 6002, api.OK)
}

// P33.2: all numbers of choices, read as bytes.
func TestReadMany(t *testing.T) {
	full := written(many(2000))[2:]
	behind := strings.Repeat("\x00", 3*most)
	for n := range 65536 {
		head := string([]byte{byte(n / 256), byte(n % 256)})
		switch {
		case n > most:
			for _, s := range []string{head, head + "\x02\x00\x00", head + behind[:n%300]} {
				if l, at, e := Read(s, 0); len(l) != 0 || at != 0 || e != api.ErrMany {
					t.Fatalf("%d choices are read: %s, %d, %d", n, shown(l), at, e)
				}
			}
		case n > 1990 || n%37 == 0:
			reads(t, head+full, 0, many(n), 2+3*n, api.OK)
			reads(t, head+behind, 0, make([]Choice, n), 2+3*n, api.OK)
		}
	}
	for _, n := range []int{2001, 2048, 2256, 4000, 65535} { // however much is there
		refuses(t, string([]byte{byte(n / 256), byte(n % 256)})+strings.Repeat("\x00", 3*n), 0, api.ErrMany)
	}
}

// P33.2: all kinds, read as bytes, at each place; of more than one that may not be, and of one that is missing, the first one is told.
func TestReadKind(t *testing.T) {
	for kind := range 256 {
		for _, x := range []string{"\x00\x00", "\x01\x02", "\xff\xff"} {
			for n := range 5 {
				s := written(many(4))
				own := []byte(s)
				own[2+3*(n%4)] = byte(kind)
				copy(own[3+3*(n%4):], x)
				if readsAnew(t, string(own), 0) != (kind < 2) {
					t.Errorf("%q", own)
				}
				for _, end := range []int{5 + 3*(n%4), 6 + 3*(n%4), 7 + 3*(n%4)} { // what comes behind is cut off
					readsAnew(t, string(own[:min(end, len(own))]), 0)
				}
			}
		}
	}
	full := []byte(written(many(2000)))
	for _, at := range []int{0, 1, 1000, 1998, 1999} {
		own := slices.Clone(full)
		own[2+3*at] = 2
		refuses(t, string(own), 0, api.ErrKind)
		refuses(t, string(own[:5+3*at]), 0, api.ErrKind)
		refuses(t, string(own[:4+3*at]), 0, api.ErrEnd)
	}
}

// P33.3: each byte of choices' bytes counts: with another one there other choices are told, or none.
func TestReadOther(t *testing.T) {
	for _, x := range few {
		for at := range len(x.text) {
			for n := range 256 {
				own := []byte(x.text)
				own[at] = byte(n)
				readsAnew(t, string(own), 0)
				l, behind, e := Read(string(own), 0)
				if e == api.OK && behind == len(own) && slices.Equal(l, x.l) != (string(own) == x.text) {
					t.Errorf("Read(%q): %s", own, shown(l))
				}
			}
		}
	}
}

// P33.3: all short texts of the bytes that matter are refused, or come back.
func TestShortTexts(t *testing.T) {
	bytes := []byte{0, 1, 2, 7, 255}
	var went, came int
	var all func(s string)
	all = func(s string) {
		if readsAnew(t, s, 0) {
			came++
		} else {
			went++
		}
		if len(s) == 6 {
			return
		}
		for _, b := range bytes {
			all(s + string([]byte{b}))
		}
	}
	all("")
	if went < 1000 || came < 200 {
		t.Errorf("%d are refused, %d come back", went, came)
	}
}

// P33.3: choices by chance come back from their bytes, wherever they stand.
func TestByChance(t *testing.T) {
	r := rand.New(rand.NewSource(33))
	for range 3000 {
		var l []Choice
		for range r.Intn(2 + r.Intn(60)) {
			l = append(l, byChance(r))
		}
		holds(t, l)
		s := written(l)
		ahead, behind := make([]byte, r.Intn(9)), make([]byte, r.Intn(9))
		r.Read(ahead)
		r.Read(behind)
		reads(t, string(ahead)+s+string(behind), len(ahead), l, len(ahead)+len(s), api.OK)
	}
	for range 20 {
		var l []Choice
		for range 1900 + r.Intn(101) {
			l = append(l, byChance(r))
		}
		holds(t, l)
	}
}

// P33.1, P33.2: lists by chance of which some may not be.
func TestWrongByChance(t *testing.T) {
	r := rand.New(rand.NewSource(331))
	bad := []Choice{{Kind: 2}, {Kind: -1, V: 300}, {V: 256}, {W: 256}, {V: -1}, {Kind: tick, V: 65536}, {Kind: tick, V: -1}, {Kind: tick, W: 1}}
	for range 3000 {
		var l []Choice
		for range 1 + r.Intn(20) {
			if r.Intn(8) == 0 {
				l = append(l, bad[r.Intn(len(bad))])
			} else {
				l = append(l, byChance(r))
			}
		}
		holds(t, l)
	}
}

// P33.3: no two lists have the same bytes: all lists of up to four of eight choices.
func TestNoTwo(t *testing.T) {
	small := []Choice{{}, {V: 1}, {W: 1}, {V: 1, W: 1}, {Kind: tick}, {Kind: tick, V: 1}, {Kind: tick, V: 256}, {Kind: tick, V: 257}}
	seen := map[string][]Choice{}
	var all func(l []Choice)
	all = func(l []Choice) {
		s := Bytes(l)
		if other, is := seen[s]; is || s == "" {
			t.Errorf("%q are the bytes of %s and of %s", s, shown(l), shown(other))
		}
		seen[s] = l
		if len(l) == 4 {
			return
		}
		for _, c := range small {
			all(append(slices.Clone(l), c))
		}
	}
	all(nil)
	if len(seen) != 4681 {
		t.Errorf("%d lists", len(seen))
	}
}

// P33.2: texts by chance, and such as were changed by chance, at all places.
func TestTextsByChance(t *testing.T) {
	r := rand.New(rand.NewSource(333))
	var came int
	for range 3000 {
		b := make([]byte, r.Intn(40))
		for i := range b {
			b[i] = byte(r.Intn(3))
			if r.Intn(12) == 0 {
				b[i] = byte(r.Intn(256))
			}
		}
		for at := -1; at <= len(b)+1; at++ {
			if readsAnew(t, string(b), at) {
				came++
			}
		}
	}
	if came < 1000 {
		t.Errorf("%d come back", came)
	}
}
