package event

import (
	"fmt"
	"math"
	"math/big"
	"math/rand"
	"regexp"
	"slices"
	"strconv"
	"strings"
	"testing"

	"becket/api"
)

// The last channel and barrier, the last process, and the last number of a guard, as the document tells them.
const (
	lastObj = 7
	lastWho = 15
	lastNo  = 5
)

// kinds are those that there are, and words are what their texts begin with.
var (
	kinds = []int{1, 2, 3, 4, 5, 6, 7, 8}
	words = []string{"fire", "pass", "put", "take", "bane", "due", "gone", "free"}
)

// letters tells of the kinds that have an Obj which letter stands ahead of it.
var letters = map[int]string{1: "b", 2: "c", 3: "c", 4: "c"}

// far are numbers that no kind, and no field of an event, may be: the ends of int, and such as lose their height, or their sign, when they are cut to fewer bits.
var far = []int{math.MinInt, math.MinInt + 1, math.MinInt + 3, math.MinInt + 5, -1 << 62, -1 << 40, -1<<32 + 1, -1<<32 + 3, -1 << 32, -1<<31 - 1, -1 << 31, -1<<31 + 1, 1<<31 - 2, 1<<31 - 1, 1 << 31, 1<<31 + 1, 1<<32 - 1, 1 << 32, 1<<32 + 1, 1<<32 + 3, 1<<32 + 8, 1 << 40, 1 << 62, math.MaxInt - 3, math.MaxInt - 1, math.MaxInt}

// near are numbers below 0, and such as may stand in a field when they are cut to a byte or two.
var near = []int{-65536, -65535, -65533, -257, -256, -255, -253, -128, -16, -15, -9, -8, -7, -6, -5, -4, -3, -2, -1, 17, 18, 31, 32, 64, 127, 128, 255, 256, 257, 259, 263, 271, 65535, 65536, 65537, 65539}

// Numbers that are no kinds, no objects, no processes and no guards.
var (
	noKinds = slices.Concat(far, near, []int{0, 9, 10, 15, 16})
	noObjs  = slices.Concat(far, near, []int{8, 9, 15, 16})
	noWhos  = slices.Concat(far, near, []int{16})
	noNos   = slices.Concat(far, near, []int{6, 7, 8, 15, 16})
	others  = slices.Concat(far, near, []int{1, 2, 5, 6, 7, 8, 15, 16}) // what is not 0
)

// by is an event by its fields.
func by(kind, obj, who, no int) Event { return Event{Kind: kind, Obj: obj, Who: who, No: no} }

// list is a list of events.
func list(l ...Event) []Event { return l }

// plain are events that may be, one of each kind, none of whose own fields is 0.
func plain() []Event {
	return list(by(1, 3, 0, 0), by(2, 1, 0, 0), by(3, 7, 0, 0), by(4, 2, 0, 0), by(5, 0, 3, 1), by(6, 0, 15, 5), by(7, 0, 1, 4), by(8, 0, 12, 2))
}

// every are all events that may be, in order.
func every() []Event {
	var l []Event
	for _, kind := range kinds {
		if letters[kind] != "" {
			for obj := range lastObj + 1 {
				l = append(l, by(kind, obj, 0, 0))
			}
			continue
		}
		for who := range lastWho + 1 {
			for no := range lastNo + 1 {
				l = append(l, by(kind, 0, who, no))
			}
		}
	}
	return l
}

// fields are an event's numbers, in the order in which they count.
func fields(e Event) []int { return []int{e.Kind, e.Obj, e.Who, e.No} }

// with is an event with another number in one of its fields: the k-th in the order in which they count.
func with(e Event, k, n int) Event {
	*[]*int{&e.Kind, &e.Obj, &e.Who, &e.No}[k] = n
	return e
}

// judged is a second reading of what Check answers.
func judged(e Event) api.Errno {
	if !slices.Contains(kinds, e.Kind) {
		return api.ErrKind
	}
	ends := []int{0, 0, lastWho, lastNo} // of Obj, Who and No, behind the kind
	if letters[e.Kind] != "" {
		ends = []int{0, lastObj, 0, 0}
	}
	bad, stray := false, false
	for k, n := range fields(e) {
		switch {
		case k == 0 || n >= 0 && n <= ends[k]:
		case ends[k] > 0:
			bad = true
		default:
			stray = true
		}
	}
	switch {
	case bad:
		return api.ErrRange
	case stray:
		return api.ErrForm
	}
	return api.OK
}

// written is a second reading of an event's text.
func written(e Event) string {
	name := words[slices.Index(kinds, e.Kind)]
	if l := letters[e.Kind]; l != "" {
		return fmt.Sprintf("%s %s%d", name, l, e.Obj)
	}
	return fmt.Sprintf("%s %d.%d", name, e.Who, e.No)
}

// The forms of what stands behind the word, with numbers of any size.
var (
	ofBarrier = regexp.MustCompile(`\Ab(0|[1-9][0-9]*)\z`)
	ofChannel = regexp.MustCompile(`\Ac(0|[1-9][0-9]*)\z`)
	ofGuard   = regexp.MustCompile(`\A(0|[1-9][0-9]*)\.(0|[1-9][0-9]*)\z`)
)

// parsed is a second reading of what Parse answers.
func parsed(s string) (Event, api.Errno) {
	parts := strings.SplitN(s, " ", 2)
	at := slices.Index(words, parts[0])
	if at < 0 {
		return Event{}, api.ErrKind
	}
	kind := kinds[at]
	form, ends := ofGuard, []int64{lastWho, lastNo}
	switch letters[kind] {
	case "b":
		form, ends = ofBarrier, []int64{lastObj}
	case "c":
		form, ends = ofChannel, []int64{lastObj}
	}
	found := form.FindStringSubmatch(strings.Join(parts[1:], ""))
	if found == nil {
		return Event{}, api.ErrForm
	}
	var numbers []int
	for i, digits := range found[1:] {
		n, ok := new(big.Int).SetString(digits, 10)
		if !ok || n.Cmp(big.NewInt(ends[i])) > 0 {
			return Event{}, api.ErrRange
		}
		numbers = append(numbers, int(n.Int64()))
	}
	if len(numbers) == 1 {
		return by(kind, numbers[0], 0, 0), api.OK
	}
	return by(kind, 0, numbers[0], numbers[1]), api.OK
}

// ahead is a second reading of Less.
func ahead(a, b Event) bool {
	switch {
	case a.Kind != b.Kind:
		return a.Kind < b.Kind
	case a.Obj != b.Obj:
		return a.Obj < b.Obj
	case a.Who != b.Who:
		return a.Who < b.Who
	}
	return a.No < b.No
}

// ordered is a second reading of Sort: each event is put in behind all that don't stand behind it.
func ordered(l []Event) []Event {
	var out []Event
	for _, e := range l {
		at := 0
		for at < len(out) && !ahead(e, out[at]) {
			at++
		}
		out = slices.Insert(out, at, e)
	}
	return out
}

// checks fails, unless Check answers so, and Text with it.
func checks(t *testing.T, e Event, want api.Errno) {
	t.Helper()
	if err := Check(e); err != want {
		t.Fatalf("Check(%+v): %d; want %d", e, err, want)
	}
	text := ""
	if want == api.OK {
		text = written(e)
	}
	if s, err := Text(e); s != text || err != want {
		t.Fatalf("Text(%+v): %q, %d; want %q, %d", e, s, err, text, want)
	}
}

// tells fails, unless an event has that text, and comes back from it.
func tells(t *testing.T, e Event, want string) {
	t.Helper()
	if s, err := Text(e); s != want || err != api.OK {
		t.Fatalf("Text(%+v): %q, %d; want %q, 0", e, s, err, want)
	}
	reads(t, want, e)
}

// reads fails, unless Parse answers that event.
func reads(t *testing.T, s string, want Event) {
	t.Helper()
	if e, err := Parse(s); e != want || err != api.OK {
		t.Fatalf("Parse(%q): %+v, %d; want %+v, 0", s, e, err, want)
	}
}

// refused fails, unless Parse answers that error, and no event beside it.
func refused(t *testing.T, want api.Errno, texts ...string) {
	t.Helper()
	for _, s := range texts {
		if e, err := Parse(s); e != (Event{}) || err != want {
			t.Fatalf("Parse(%q): %+v, %d; want {}, %d", s, e, err, want)
		}
	}
}

// agrees fails, unless Parse answers as a second reading does.
func agrees(t *testing.T, s string) {
	t.Helper()
	if e, err := parsed(s); err != api.OK {
		refused(t, err, s)
	} else {
		reads(t, s, e)
	}
}

// stands fails, unless a stands ahead of b, and b not ahead of a.
func stands(t *testing.T, a, b Event) {
	t.Helper()
	if !Less(a, b) || Less(b, a) {
		t.Fatalf("Less(%+v, %+v): %v, and the other way round %v; want true, false", a, b, Less(a, b), Less(b, a))
	}
}

// beside is what lies in longer memory beside a list: it is not in order with anything else.
var beside = []Event{by(9, 9, 9, 9), by(-9, -9, -9, -9), by(4, 4, 4, 4)}

// sorts fails, unless Sort answers so, leaves what it was handed as it was, and what lies beside it, and shares no memory with it.
func sorts(t *testing.T, l, want []Event) {
	t.Helper()
	memory := slices.Concat(beside, l, beside)
	kept := slices.Clone(memory)
	many := len(beside)
	got := Sort(memory[many : many+len(l)])
	if !slices.Equal(got, want) {
		t.Fatalf("Sort(%+v): %+v; want %+v", l, got, want)
	}
	for i := range got {
		got[i] = by(-1, -1, -1, -1)
	}
	_ = append(got, by(-2, -2, -2, -2))
	if !slices.Equal(memory, kept) {
		t.Fatalf("Sort(%+v) has written to what it was handed, or shares it: %+v", l, memory)
	}
}

// shuffled are the same events, in an order by chance.
func shuffled(r *rand.Rand, l []Event) []Event {
	l = slices.Clone(l)
	r.Shuffle(len(l), func(i, j int) { l[i], l[j] = l[j], l[i] })
	return l
}

// The chapter's example.
func TestExample(t *testing.T) {
	reads(t, "bane 3.0", Event{Kind: Bane, Who: 3})
}

// The kinds are those numbers.
func TestKinds(t *testing.T) {
	got := []int{Fire, Pass, Put, Take, Bane, Due, Gone, Free}
	if !slices.Equal(got, kinds) {
		t.Errorf("%v; want %v", got, kinds)
	}
}

// The chapter's eight texts.
func TestEightTexts(t *testing.T) {
	tells(t, by(1, 0, 0, 0), "fire b0")
	tells(t, by(2, 1, 0, 0), "pass c1")
	tells(t, by(3, 1, 0, 0), "put c1")
	tells(t, by(4, 1, 0, 0), "take c1")
	tells(t, by(5, 0, 3, 0), "bane 3.0")
	tells(t, by(6, 0, 3, 1), "due 3.1")
	tells(t, by(7, 0, 3, 0), "gone 3.0")
	tells(t, by(8, 0, 3, 2), "free 3.2")
}

// P28.1: Check and Text of an event of each kind, and of kinds about what there is.
func TestCheckKind(t *testing.T) {
	for _, e := range plain() {
		checks(t, e, api.OK)
		for _, kind := range noKinds {
			checks(t, with(e, 0, kind), api.ErrKind)
		}
	}
	for _, kind := range noKinds {
		checks(t, by(kind, 0, 0, 0), api.ErrKind)
	}
	for _, kind := range kinds {
		checks(t, by(kind, 0, 0, 0), api.OK)
	}
}

// P28.1: Check and Text: the edges of Obj in the kinds that have one, and what is not 0 in those that have none.
func TestCheckObj(t *testing.T) {
	for _, kind := range []int{1, 2, 3, 4} {
		checks(t, by(kind, -1, 0, 0), api.ErrRange)
		checks(t, by(kind, 0, 0, 0), api.OK)
		checks(t, by(kind, 7, 0, 0), api.OK)
		checks(t, by(kind, 8, 0, 0), api.ErrRange)
		for _, obj := range noObjs {
			checks(t, by(kind, obj, 0, 0), api.ErrRange)
		}
	}
	for _, kind := range []int{5, 6, 7, 8} {
		for _, obj := range others {
			checks(t, by(kind, obj, 0, 0), api.ErrForm)
			checks(t, by(kind, obj, 15, 5), api.ErrForm)
		}
	}
}

// P28.1: Check and Text: the edges of Who and No in the kinds that have them, and what is not 0 in those that have none.
func TestCheckWhoNo(t *testing.T) {
	for _, kind := range []int{5, 6, 7, 8} {
		for _, no := range []int{0, 5} {
			checks(t, by(kind, 0, -1, no), api.ErrRange)
			checks(t, by(kind, 0, 0, no), api.OK)
			checks(t, by(kind, 0, 15, no), api.OK)
			checks(t, by(kind, 0, 16, no), api.ErrRange)
			for _, who := range noWhos {
				checks(t, by(kind, 0, who, no), api.ErrRange)
			}
		}
		for _, who := range []int{0, 15} {
			checks(t, by(kind, 0, who, -1), api.ErrRange)
			checks(t, by(kind, 0, who, 6), api.ErrRange)
			for _, no := range noNos {
				checks(t, by(kind, 0, who, no), api.ErrRange)
			}
		}
	}
	for _, kind := range []int{1, 2, 3, 4} {
		for _, n := range others {
			checks(t, by(kind, 0, n, 0), api.ErrForm)
			checks(t, by(kind, 7, n, 0), api.ErrForm)
			checks(t, by(kind, 0, 0, n), api.ErrForm)
			checks(t, by(kind, 7, 0, n), api.ErrForm)
		}
	}
}

// P28.1: more than one thing is wrong: ErrKind goes ahead of ErrRange, and that ahead of ErrForm.
func TestCheckOrder(t *testing.T) {
	checks(t, by(0, 8, 16, 6), api.ErrKind)
	checks(t, by(9, -1, -1, -1), api.ErrKind)
	checks(t, by(0, 0, 0, 6), api.ErrKind)
	checks(t, by(9, 1, 1, 1), api.ErrKind)
	for _, kind := range []int{1, 2, 3, 4} {
		checks(t, by(kind, 8, 1, 0), api.ErrRange)
		checks(t, by(kind, -1, 0, 1), api.ErrRange)
		checks(t, by(kind, 8, 16, 6), api.ErrRange)
		checks(t, by(kind, 7, 1, 1), api.ErrForm)
		checks(t, by(kind, 7, 16, 0), api.ErrForm)
		checks(t, by(kind, 7, 0, 6), api.ErrForm)
	}
	for _, kind := range []int{5, 6, 7, 8} {
		checks(t, by(kind, 1, 16, 0), api.ErrRange)
		checks(t, by(kind, 1, 0, 6), api.ErrRange)
		checks(t, by(kind, 1, -1, -1), api.ErrRange)
		checks(t, by(kind, 8, 15, 6), api.ErrRange)
		checks(t, by(kind, 8, 15, 5), api.ErrForm)
		checks(t, by(kind, -1, 15, 5), api.ErrForm)
		checks(t, by(kind, 0, 16, 6), api.ErrRange)
	}
}

// P28.1: Check and Text of all events with numbers about what may be, and far from it, in two fields at once.
func TestCheckAll(t *testing.T) {
	for kind := -2; kind <= 11; kind++ {
		for obj := -2; obj <= 10; obj++ {
			for who := -2; who <= 18; who++ {
				for no := -2; no <= 8; no++ {
					e := by(kind, obj, who, no)
					checks(t, e, judged(e))
				}
			}
		}
	}
	for _, e := range plain() {
		for j := range 4 {
			for k := range j {
				for _, m := range far {
					for _, n := range slices.Concat(far, near) {
						e := with(with(e, j, m), k, n)
						checks(t, e, judged(e))
						e = with(with(e, j, n), k, m)
						checks(t, e, judged(e))
					}
				}
			}
		}
	}
}

// P28.2: Parse: what stands ahead of the first blank is none of the eight words.
func TestParseKind(t *testing.T) {
	refused(t, api.ErrKind,
		"", " ", "  ", " fire b0", " bane 3.0", "  fire b0", " fire", "b0", "3.0", " b0", " 3.0", ".", "0", "c", "1 b0", "5 3.0",
		"fireb0", "passc1", "bane3.0", "free3.2", "fire-b0", "fire\tb0", "fire\nb0", "fire\x00b0", "fire\u00a0b0", "fire_b0", "fire,b0", "\tfire b0", "\nfire b0", "fire\r b0", "fire\t b0",
		"Fire b0", "FIRE b0", "firE b0", "Pass c1", "PUT c1", "tAke c1", "Bane 3.0", "DUE 3.1", "gonE 3.0", "FREE 3.2",
		"fir b0", "ire b0", "fires b0", "f b0", "pas c1", "pu c1", "tak c1", "ban 3.0", "du 3.1", "gon 3.0", "fre 3.2", "fred 3.2", "dues 3.1", "putt c1", "firepass b0", "fire,pass b0",
		"in c0", "out c0", "bar b0", "time 3.0", "skip 3.0", "join 3.0", "none 3.0", "ended 0", "offered 0", "faulted 0", "took 3.0",
		"\xfffire b0", "fire\xff b0", "f\xefre b0", "\xff", "\xff b0", "ｆire b0", "ﬁre b0", "fıre b0", "\ufefffire b0", "\x00", "\x00 b0", "fire\x00 b0",
		"unknown c8", "x 16.6", "x 01.02", "x y z", "x", "x ", strings.Repeat("fire", 1000), strings.Repeat("x", 100000)+" b0",
	)
	for _, w := range words {
		refused(t, api.ErrKind, strings.ToUpper(w), strings.ToUpper(w)+" b0", strings.ToUpper(w)+" 3.0", w+w, " "+w, w+"\t", w[1:], w[:len(w)-1], w+"\x00", w+".", "."+w)
	}
}

// P28.2: Parse: what stands behind the word is nothing, or begins or ends with what is not of the form.
func TestParseNothing(t *testing.T) {
	for _, w := range words {
		refused(t, api.ErrForm, w, w+" ", w+"  ", w+" \t", w+" \n", w+" "+w, w+" x", w+" .", w+" ..", w+" -", w+" +", w+" \xff", w+" \x00", w+" 0", w+" 3", w+" b", w+" c", w+" bc", w+" 00")
	}
	for _, e := range every() {
		s := written(e)
		name, rest, _ := strings.Cut(s, " ")
		refused(t, api.ErrForm, name+"  "+rest, name+" \t"+rest, name+" "+name+" "+rest, name+" +"+rest, name+" -"+rest, name+" \xff"+rest, name+" \x00"+rest, name+" ."+rest, name+" x"+rest, name+" \u0660"+rest)
		refused(t, api.ErrForm, s+" ", s+"  ", s+"\n", s+"\r\n", s+"\t", s+"\x00", s+"\xff", s+".", s+".0", s+",", s+"x", s+"b", s+"c", s+" "+s, s+"\n"+s, s+" 0", s+"-", s+"+", s+"e0", s+"_0", s+"\u0661", s+"é")
		refused(t, api.ErrKind, " "+s, name+rest, strings.ToUpper(s), "x"+s, "\n"+s)
	}
}

// P28.2: Parse of events with an Obj: another kind's form, another letter, no digits, signs, and noughts ahead.
func TestParseObj(t *testing.T) {
	for kind, letter := range letters {
		w := words[kind-1] + " "
		other := map[string]string{"b": "c", "c": "b"}[letter]
		refused(t, api.ErrForm, w+other+"0", w+other+"1", w+other+"7", w+other+"8", w+strings.ToUpper(letter)+"0", w+"a0", w+"d0", w+"r0", w+"k0", w+"@0", w+letter+letter+"0", w+letter+other+"0", w+other+letter+"0", w+"0"+letter, w+"0", w+"7", w+"3.0", w+"3.1", w+letter+"3.0", w+letter+".", w+letter+"3.", w+letter+".3", w+letter+"1."+letter+"1", w+"\u044c0", w+"\u04410")
		refused(t, api.ErrForm, w+letter, w+letter+" ", w+letter+" 0", w+letter+"x", w+letter+"0x1", w+letter+"0b1", w+letter+"0o1", w+letter+"1e0", w+letter+"1_0", w+letter+"\xff", w+letter+"\x00", w+letter+"\u0661", w+letter+"１", w+letter+"a", w+letter+"f", w+letter+"/", w+letter+":")
		refused(t, api.ErrForm, w+letter+"-0", w+letter+"+0", w+letter+"-1", w+letter+"+1", w+letter+"--1", w+letter+"-", w+letter+"+", w+letter+"-8", w+letter+"-99999999999999999999", w+letter+"+99999999999999999999", w+letter+"1-", w+letter+"-2147483648", w+letter+"-9223372036854775808")
		refused(t, api.ErrForm, w+letter+"00", w+letter+"01", w+letter+"07", w+letter+"08", w+letter+"000", w+letter+"0000000000000000000000", w+letter+"0099999999999999999999", w+letter+"0"+strings.Repeat("1", 10000))
		refused(t, api.ErrRange, w+letter+"8", w+letter+"9", w+letter+"10", w+letter+"17", w+letter+"70", w+letter+"80", w+letter+"256", w+letter+"257", w+letter+"65536", w+letter+"2147483647", w+letter+"2147483648", w+letter+"4294967296", w+letter+"4294967297", w+letter+"9223372036854775807", w+letter+"9223372036854775808", w+letter+"18446744073709551616", w+letter+"18446744073709551617", w+letter+"99999999999999999999999", w+letter+"1"+strings.Repeat("0", 10000))
		for obj := range lastObj + 1 {
			reads(t, w+letter+strconv.Itoa(obj), by(kind, obj, 0, 0))
		}
	}
}

// P28.2: Parse of events with Who and No: another kind's form, a dot too many or none, no digits, signs, and noughts ahead.
func TestParseWhoNo(t *testing.T) {
	for _, kind := range []int{5, 6, 7, 8} {
		w := words[kind-1] + " "
		refused(t, api.ErrForm, w+"b0", w+"c0", w+"c1", w+"b3.0", w+"c3.0", w+"3.c0", w+"3.b0", w+"r3.0", w+"3", w+"30", w+"0", w+"16", w+"3,0", w+"3:0", w+"3 0", w+"3. 0", w+"3 .0", w+"3..0", w+"3.0.", w+".3.0", w+"3.0.0", w+"3.0.1", w+"3.", w+".0", w+".", w+"..", w+"...", w+"3..", w+"..0", w+"3\u20240", w+"3\uff0e0")
		refused(t, api.ErrForm, w+"x.0", w+"3.x", w+"a.0", w+"3.a", w+"0x3.0", w+"3.0x0", w+"3e0.0", w+"3.0e0", w+"1_0.0", w+"3.0_0", w+"3.\xff", w+"\xff.0", w+"3\xff.0", w+"3.0\xff", w+"\u0663.0", w+"3.\u0660", w+"３.0", w+"3.０", w+"/.0", w+":.0", w+"3./", w+"3.:", w+"Inf.0", w+"NaN.NaN")
		refused(t, api.ErrForm, w+"-3.0", w+"+3.0", w+"3.-0", w+"3.+0", w+"-0.0", w+"+0.0", w+"3.-1", w+"3.+1", w+"-1.-1", w+"-.0", w+"3.-", w+"+.0", w+"3.+", w+"3-.0", w+"3.0-", w+"-16.6", w+"16.-6", w+"-99999999999999999999.0", w+"3.-99999999999999999999", w+"-2147483649.0", w+"3.-2147483649")
		refused(t, api.ErrForm, w+"03.0", w+"3.00", w+"00.0", w+"0.00", w+"3.01", w+"03.01", w+"015.5", w+"15.05", w+"016.6", w+"16.06", w+"0000000000000000000000.0", w+"0.0000000000000000000000", w+"0099999999999999999999.0", w+"3.0099999999999999999999")
		refused(t, api.ErrRange, w+"16.0", w+"17.0", w+"0.6", w+"0.7", w+"15.6", w+"16.5", w+"16.6", w+"99.99", w+"20.0", w+"30.0", w+"0.10", w+"0.50", w+"256.0", w+"0.256", w+"65536.0", w+"0.65536", w+"2147483647.0", w+"0.2147483647", w+"2147483648.0", w+"0.2147483648", w+"4294967296.0", w+"0.4294967296", w+"4294967299.4294967297", w+"9223372036854775807.0", w+"0.9223372036854775807", w+"9223372036854775808.0", w+"0.9223372036854775808", w+"18446744073709551619.0", w+"3.18446744073709551617", w+"99999999999999999999999.0", w+"3.99999999999999999999999", w+"1"+strings.Repeat("0", 10000)+".0", w+"3.1"+strings.Repeat("0", 10000))
		for who := range lastWho + 1 {
			for no := range lastNo + 1 {
				reads(t, w+strconv.Itoa(who)+"."+strconv.Itoa(no), by(kind, 0, who, no))
			}
		}
	}
}

// P28.2: more than one thing is wrong: ErrKind goes ahead of ErrForm, and that, wherever it is, ahead of ErrRange.
func TestParseOrder(t *testing.T) {
	refused(t, api.ErrKind, "fires", "fires ", "fires c8", "fires 01.02", "fires b99999999999999999999", "Fire b08", "banes 16.06", " bane 16.06", "x")
	refused(t, api.ErrForm, "fire c8", "fire b8 ", "fire b08", "fire b-8", "fire B8", "fire 8", "fire  b8", "fire b8.0", "pass b8", "put b99999999999999999999", "take c99999999999999999999x", "take c99999999999999999999 ")
	refused(t, api.ErrForm, "bane 16", "bane 16.", "bane .6", "bane 16.06", "bane 016.6", "due 16.x", "due x.6", "gone 16.6.", "gone 16.6 ", "gone 16.6.0", "free 99999999999999999999.00", "free 99999999999999999999.-1", "free 00.99999999999999999999", "free -1.99999999999999999999", "free 99999999999999999999", "bane 99999999999999999999.", "bane .99999999999999999999", "bane  16.6", "bane b16.6")
	refused(t, api.ErrRange, "fire b8", "pass c8", "put c8", "take c8", "bane 16.6", "due 16.0", "gone 0.6", "free 99999999999999999999.99999999999999999999")
}

// P28.2: Parse of all texts that differ from an event's in one place: a byte is another one, one is put in, one is missing, or two change places.
func TestParseOneOff(t *testing.T) {
	for _, e := range plain() {
		s := written(e)
		for at := range len(s) + 1 {
			for b := range 256 {
				agrees(t, s[:at]+string([]byte{byte(b)})+s[at:])
				if at < len(s) {
					agrees(t, s[:at]+string([]byte{byte(b)})+s[at+1:])
				}
			}
			agrees(t, s[:at])
			agrees(t, s[at:])
			for to := at; to <= len(s); to++ {
				agrees(t, s[:at]+s[to:])
				agrees(t, s[:to]+s[at:to]+s[to:])
			}
			if at+1 < len(s) {
				agrees(t, s[:at]+s[at+1:at+2]+s[at:at+1]+s[at+2:])
			}
		}
	}
}

// P28.2: Parse of each word, and of some that are none, with all short texts of picked bytes behind it.
func TestParseShort(t *testing.T) {
	texts, last := []string{""}, []string{""}
	for range 5 {
		var next []string
		for _, s := range last {
			for _, b := range []string{"b", "c", "0", "1", "6", ".", "-", " "} {
				next = append(next, s+b)
			}
		}
		texts, last = append(texts, next...), next
	}
	for _, w := range slices.Concat(words, []string{"", "x"}) {
		for _, s := range texts {
			agrees(t, w+" "+s)
		}
	}
}

// P28.2: Parse of texts that are put together by chance.
func TestParseChance(t *testing.T) {
	r := rand.New(rand.NewSource(2821))
	parts := slices.Concat(words, []string{" ", " ", " ", "  ", "b", "c", "b", "c", ".", ".", ".", "0", "1", "5", "6", "7", "8", "9", "15", "16", "00", "01", "-", "+", "x", "\t", "\n", "\xff", "é", "2147483648", "99999999999999999999"})
	for range 300000 {
		var s strings.Builder
		if r.Intn(4) > 0 {
			s.WriteString(words[r.Intn(len(words))] + " ")
		}
		for range r.Intn(6) {
			s.WriteString(parts[r.Intn(len(parts))])
		}
		agrees(t, s.String())
	}
}

// P28.3: Less of two that are unlike in one field alone, of events that may be, and of such as may not.
func TestLessOneField(t *testing.T) {
	numbers := slices.Concat(far, near, []int{0, 1, 2, 3, 4, 5, 6, 7, 8, 9, 10, 15, 16})
	slices.Sort(numbers)
	numbers = slices.Compact(numbers)
	for _, e := range slices.Concat(plain(), list(Event{}, by(9, 8, 16, 6), by(-1, -1, -1, -1), by(math.MaxInt, math.MinInt, math.MaxInt, math.MinInt))) {
		for k := range 4 {
			for i, n := range numbers {
				a := with(e, k, n)
				if Less(a, a) {
					t.Fatalf("Less(%+v, %+v): true", a, a)
				}
				for _, m := range numbers[i+1:] {
					stands(t, a, with(e, k, m))
				}
			}
		}
	}
}

// P28.3: Less: the kind counts ahead of Obj, that ahead of Who, and that ahead of No.
func TestLessOrder(t *testing.T) {
	stands(t, by(1, 7, 0, 0), by(2, 0, 0, 0))
	stands(t, by(4, 7, 0, 0), by(5, 0, 0, 0))
	stands(t, by(5, 0, 15, 5), by(6, 0, 0, 0))
	stands(t, by(5, 0, 3, 5), by(5, 0, 4, 0))
	stands(t, by(5, 0, 3, 0), by(5, 0, 3, 1))
	stands(t, by(5, 0, 9, 0), by(5, 0, 10, 0))
	stands(t, by(1, 9, 9, 9), by(2, -9, -9, -9))
	stands(t, by(1, 1, 9, 9), by(1, 2, -9, -9))
	stands(t, by(1, 1, 1, 9), by(1, 1, 2, -9))
	stands(t, by(1, math.MaxInt, math.MaxInt, math.MaxInt), by(2, math.MinInt, math.MinInt, math.MinInt))
	stands(t, by(math.MinInt, 0, 0, 0), by(math.MaxInt, 0, 0, 0))
	stands(t, by(0, math.MinInt, math.MaxInt, 0), by(0, math.MaxInt, math.MinInt, 0))
	stands(t, by(0, 0, math.MinInt, math.MaxInt), by(0, 0, math.MaxInt, math.MinInt))
	stands(t, by(0, 0, 0, math.MinInt), by(0, 0, 0, math.MaxInt))
}

// P28.3, P28.4: Less of all pairs of events that may be: these stand in order as they are counted; of two that are unlike just one stands ahead.
func TestLessEvery(t *testing.T) {
	l := every()
	for i, a := range l {
		if Less(a, a) {
			t.Fatalf("Less(%+v, %+v): true", a, a)
		}
		for _, b := range l[i+1:] {
			stands(t, a, b)
		}
	}
}

// P28.3, P28.4: Less of all pairs of events with few numbers, that may be or not: just one of two that are unlike stands ahead.
func TestLessAny(t *testing.T) {
	var l []Event
	few := []int{math.MinInt, -1, 0, 1, math.MaxInt}
	for _, kind := range few {
		for _, obj := range few {
			for _, who := range few {
				for _, no := range few {
					l = append(l, by(kind, obj, who, no))
				}
			}
		}
	}
	for _, a := range l {
		for _, b := range l {
			if got := Less(a, b); got != ahead(a, b) {
				t.Fatalf("Less(%+v, %+v): %v", a, b, got)
			}
			if one := Less(a, b) != Less(b, a); one != (a != b) {
				t.Fatalf("Less(%+v, %+v): %v; and the other way round %v", a, b, Less(a, b), Less(b, a))
			}
		}
	}
}

// P28.3: Sort of none, of one, of two and of many: in order, against it, and with one that is there more than once.
func TestSort(t *testing.T) {
	sorts(t, nil, nil)
	sorts(t, list(), nil)
	a, b, c := by(1, 0, 0, 0), by(5, 0, 3, 0), by(5, 0, 3, 1)
	sorts(t, list(b), list(b))
	sorts(t, list(by(0, 0, 0, 0)), list(by(0, 0, 0, 0)))
	sorts(t, list(a, b), list(a, b))
	sorts(t, list(b, a), list(a, b))
	sorts(t, list(b, b), list(b, b))
	sorts(t, list(a, b, c), list(a, b, c))
	sorts(t, list(c, b, a), list(a, b, c))
	sorts(t, list(c, a, b), list(a, b, c))
	sorts(t, list(b, a, b), list(a, b, b))
	sorts(t, list(c, c, a, b, c, a), list(a, a, b, c, c, c))
	sorts(t, list(by(9, 9, 9, 9), a, by(-1, 0, 0, 0), a), list(by(-1, 0, 0, 0), a, a, by(9, 9, 9, 9)))
	sorts(t, list(by(5, 0, 10, 0), by(5, 0, 9, 0), by(5, 0, 1, 0), by(5, 0, 15, 0)), list(by(5, 0, 1, 0), by(5, 0, 9, 0), by(5, 0, 10, 0), by(5, 0, 15, 0)))
	if got := Sort(nil); len(got) != 0 {
		t.Fatalf("Sort(nil): %+v", got)
	}
	l := every()
	sorts(t, l, l)
	back := slices.Clone(l)
	slices.Reverse(back)
	sorts(t, back, l)
	sorts(t, slices.Concat(back, l), ordered(slices.Concat(l, l)))
}

// P28.3: Sort of all lists of four events, in all orders, each as often as may be.
func TestSortAllOrders(t *testing.T) {
	from := list(by(1, 7, 0, 0), by(2, 0, 0, 0), by(5, 0, 3, 1), by(5, 0, 4, 0), by(-1, 9, 9, 9))
	last := [][]Event{nil}
	for range 5 {
		var next [][]Event
		for _, l := range last {
			for _, e := range from {
				longer := slices.Concat(l, list(e))
				sorts(t, longer, ordered(longer))
				next = append(next, longer)
			}
		}
		last = next
	}
}

// P28.3: Sort of lists by chance: in order, and each as often as it was.
func TestSortChance(t *testing.T) {
	r := rand.New(rand.NewSource(2831))
	l := every()
	for range 200 {
		sorts(t, shuffled(r, l), l)
	}
	few := []int{math.MinInt, -1, 0, 1, 5, 7, 8, 16, math.MaxInt}
	one := func() int { return few[r.Intn(len(few))] }
	for range 3000 {
		var l []Event
		for range r.Intn(60) {
			if r.Intn(3) == 0 && len(l) > 0 {
				l = append(l, l[r.Intn(len(l))])
				continue
			}
			l = append(l, by(one(), one(), one(), one()))
		}
		sorts(t, l, ordered(l))
		counts(t, l)
	}
}

// counts fails, unless each event is in the sorted list as often as in the list, and each one of it stands not ahead of the one before it.
func counts(t *testing.T, l []Event) {
	t.Helper()
	often := map[Event]int{}
	for _, e := range l {
		often[e]++
	}
	got := Sort(l)
	for i, e := range got {
		often[e]--
		if i > 0 && Less(e, got[i-1]) {
			t.Fatalf("Sort(%+v): %+v behind %+v", l, e, got[i-1])
		}
	}
	for e, n := range often {
		if n != 0 {
			t.Fatalf("Sort(%+v): %+v %d times too few", l, e, n)
		}
	}
}

// P28.4: each event that may be comes back from its text, no two have the same one, and a text that Parse takes is its event's.
func TestBack(t *testing.T) {
	met := map[string]Event{}
	for _, e := range every() {
		s, err := Text(e)
		if err != api.OK {
			t.Fatalf("Text(%+v): %d", e, err)
		}
		tells(t, e, written(e))
		if other, is := met[s]; is {
			t.Fatalf("%+v and %+v: %q", other, e, s)
		}
		met[s] = e
	}
	for _, w := range words {
		for _, mark := range []string{"b", "c", ""} {
			for n := -1; n < 30; n++ {
				taken(t, w+" "+mark+strconv.Itoa(n))
				for m := -1; m < 30; m++ {
					taken(t, w+" "+mark+strconv.Itoa(n)+"."+strconv.Itoa(m))
				}
			}
		}
	}
}

// taken fails, unless Parse refuses a text, or it is that of the event that is answered.
func taken(t *testing.T, s string) {
	t.Helper()
	agrees(t, s)
	e, err := Parse(s)
	if err != api.OK {
		return
	}
	if back, err := Text(e); back != s || err != api.OK {
		t.Fatalf("Parse(%q): %+v, whose text is %q, %d", s, e, back, err)
	}
}

// R3: what is answered hangs on the arguments alone: asked again, behind other calls, it is the same.
func TestAgain(t *testing.T) {
	for _, e := range slices.Concat(plain(), list(Event{}, by(1, 8, 0, 0), by(5, 1, 0, 0))) {
		for range 3 {
			checks(t, e, judged(e))
			_, _ = Parse("free 15.5")
			sorts(t, plain(), plain())
		}
	}
}
