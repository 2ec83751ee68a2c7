package handle

import (
	"math"
	"regexp"
	"strconv"
	"strings"
	"testing"

	"becket/api"
)

// noHandles are numbers that are no handles: below the first one, behind the last one, and at the ends of the type.
var noHandles = []int{math.MinInt, -268435455, -8197, -4097, -4096, -4095, -1, 0, 1, 5, 4094, 4095, 268435456, 268435457, 1 << 32, 1<<32 + 8197, math.MaxInt}

// handles are handles with their slots and generations, the edges of both among them.
var handles = []struct {
	h, slot, gen int
	text         string
}{
	{4096, 0, 1, "0.1"},
	{4097, 1, 1, "1.1"},
	{8191, 4095, 1, "4095.1"},
	{8192, 0, 2, "0.2"},
	{8197, 5, 2, "5.2"},
	{40970, 10, 10, "10.10"},
	{409700, 100, 100, "100.100"},
	{268427264, 0, 65534, "0.65534"},
	{268431359, 4095, 65534, "4095.65534"},
	{268431360, 0, 65535, "0.65535"},
	{268435454, 4094, 65535, "4094.65535"},
	{268435455, 4095, 65535, "4095.65535"},
}

// P1.1: Make.
func TestMake(t *testing.T) {
	for _, c := range handles {
		if h, e := Make(c.slot, c.gen); h != c.h || e != api.OK {
			t.Errorf("Make(%d, %d): %d, %d; want %d, 0", c.slot, c.gen, h, e, c.h)
		}
	}
}

// P1.1: Make of numbers that may not be, one of both or both.
func TestMakeRange(t *testing.T) {
	slots := []int{math.MinInt, -4096, -1, 4096, 4097, 1 << 32, math.MaxInt}
	gens := []int{math.MinInt, -65535, -1, 0, 65536, 65537, 1 << 32, math.MaxInt}
	refused := func(slot, gen int) {
		if h, e := Make(slot, gen); h != 0 || e != api.ErrRange {
			t.Errorf("Make(%d, %d): %d, %d; want 0, ErrRange", slot, gen, h, e)
		}
	}
	for _, slot := range slots {
		for _, gen := range append([]int{1, 2, 65535}, gens...) {
			refused(slot, gen)
		}
	}
	for _, gen := range gens {
		for _, slot := range []int{0, 5, 4095} {
			refused(slot, gen)
		}
	}
}

// P1.1: Fine, Slot, Gen.
func TestFineSlotGen(t *testing.T) {
	for _, c := range handles {
		if !Fine(c.h) || Slot(c.h) != c.slot || Gen(c.h) != c.gen {
			t.Errorf("%d: %v, %d, %d; want true, %d, %d", c.h, Fine(c.h), Slot(c.h), Gen(c.h), c.slot, c.gen)
		}
	}
	for _, h := range noHandles {
		if Fine(h) || Slot(h) != -1 || Gen(h) != 0 {
			t.Errorf("%d: %v, %d, %d; want false, -1, 0", h, Fine(h), Slot(h), Gen(h))
		}
	}
}

// P1.2: Next, up to the last generation.
func TestNext(t *testing.T) {
	for _, c := range handles {
		h, e := Next(c.h)
		if c.gen == api.MaxGen {
			if h != 0 || e != api.ErrLimit {
				t.Errorf("Next(%d): %d, %d; want 0, ErrLimit", c.h, h, e)
			}
			continue
		}
		if e != api.OK || Slot(h) != c.slot || Gen(h) != c.gen+1 {
			t.Errorf("Next(%d): %d, %d; want slot %d, generation %d", c.h, h, e, c.slot, c.gen+1)
		}
	}
	for _, h := range noHandles {
		if n, e := Next(h); n != 0 || e != api.ErrRange {
			t.Errorf("Next(%d): %d, %d; want 0, ErrRange", h, n, e)
		}
	}
}

// P1.2: from the first generation of a slot on, Next leads through all of them.
func TestNextAll(t *testing.T) {
	for _, slot := range []int{0, 5, 4095} {
		h, _ := Make(slot, 1)
		for gen := 2; gen <= api.MaxGen; gen++ {
			n, e := Next(h)
			if want := 4096*gen + slot; n != want || e != api.OK {
				t.Fatalf("Next(%d): %d, %d; want %d, 0", h, n, e, want)
			}
			h = n
		}
		if n, e := Next(h); n != 0 || e != api.ErrLimit {
			t.Fatalf("Next(%d): %d, %d; want 0, ErrLimit", h, n, e)
		}
	}
}

// P1.3: Text.
func TestText(t *testing.T) {
	for _, c := range handles {
		if s, e := Text(c.h); s != c.text || e != api.OK {
			t.Errorf("Text(%d): %q, %d; want %q, 0", c.h, s, e, c.text)
		}
	}
	for _, h := range noHandles {
		if s, e := Text(h); s != "" || e != api.ErrRange {
			t.Errorf("Text(%d): %q, %d; want nothing, ErrRange", h, s, e)
		}
	}
}

// P1.3: Parse of handles' texts.
func TestParse(t *testing.T) {
	for _, c := range handles {
		if h, e := Parse(c.text); h != c.h || e != api.OK {
			t.Errorf("Parse(%q): %d, %d; want %d, 0", c.text, h, e, c.h)
		}
	}
}

// P1.3: Parse of texts that have not the form, whether or not their numbers may be.
func TestParseForm(t *testing.T) {
	texts := []string{
		"", ".", "5", "52", "4095", "5.", ".2", "..", "5..2", ".5.2", "5.2.", "5.2.1", "..2", "5..",
		"05.2", "00.2", "000.1", "5.02", "5.00", "5.01", "00.00", "0.00001", "01.01", "0005.2", "05.", "0 .1",
		"-5.2", "5.-2", "+5.2", "5.+2", "-0.1", "0.-0", "- 5.2",
		" 5.2", "5.2 ", "5 .2", "5. 2", "5.2\n", "\t5.2", "5.2\x00", "\x005.2", "5\x00.2",
		"5,2", "5:2", "5/2", "5.2/", "/.2", ":.2", "5.:", "5e1.2", "0x5.2", "5.0x2", "5_0.2", "5.1_0", "a.b", "a.2", "5.b", "5a.2", "5.2a",
		"٥.٢", "5.٢", "५.2", "5。2", "５.２", "5.2\u0301", "\ufeff5.2", "5\u00b7" + "2", "é.2",
		"\xff", "5\xff.2", "5.2\xff", "\xb5.2", "5.\xb2", "5\xc0\xae" + "2",
		"4096.01", "04096.1", "99999999999999999999.02", "99999999999999999999", "5.99999999999999999999x", "5.65536.", "99999.x",
		strings.Repeat("9", 1000), strings.Repeat("0", 1000) + "5.2", "5." + strings.Repeat("0", 1000),
	}
	for _, s := range texts {
		if h, e := Parse(s); h != 0 || e != api.ErrForm {
			t.Errorf("Parse(%q): %d, %d; want 0, ErrForm", s, h, e)
		}
	}
}

// P1.3: Parse of texts that have the form, but of numbers that may not be; some of them would be handles again, if numbers left their type.
func TestParseRange(t *testing.T) {
	texts := []string{
		"0.0", "5.0", "4095.0", "4096.0", "4096.1", "4097.1", "9999.1", "10000.1", "40950.1", "65536.1",
		"0.65536", "5.65536", "4095.65536", "5.65537", "5.99999", "5.100000", "5.655350", "4096.65536",
		"4294967301.2", "5.4294967298", "9223372036854775808.2", "18446744073709551621.2", "5.18446744073709551618",
		"340282366920938463463374607431768211461.2", "5.340282366920938463463374607431768211458",
		strings.Repeat("9", 1000) + ".2", "5." + strings.Repeat("9", 1000), "1" + strings.Repeat("0", 1000) + ".2", "5.1" + strings.Repeat("0", 1000),
	}
	for _, s := range texts {
		if h, e := Parse(s); h != 0 || e != api.ErrRange {
			t.Errorf("Parse(%q): %d, %d; want 0, ErrRange", s, h, e)
		}
	}
}

// P1.3: any byte, put in anywhere: only a digit may stand there, and no nought ahead.
func TestParseStray(t *testing.T) {
	for b := range 256 {
		stray := string([]byte{byte(b)})
		for _, s := range []string{stray + "5.2", "5" + stray + ".2", "5." + stray + "2", "5.2" + stray} {
			h, e := Parse(s)
			fine := b >= '0' && b <= '9' && !strings.HasPrefix(s, "0") && !strings.Contains(s, ".0")
			if fine && e != api.OK || !fine && (h != 0 || e != api.ErrForm) {
				t.Errorf("Parse(%q): %d, %d; fine: %v", s, h, e, fine)
			}
		}
	}
}

// form is what P1.3 says of a text, told another way than the program does.
var form = regexp.MustCompile(`^(0|[1-9][0-9]*)\.(0|[1-9][0-9]*)$`)

// parsed is what Parse must answer for a text of small numbers.
func parsed(s string) (int, api.Errno) {
	m := form.FindStringSubmatch(s)
	if m == nil {
		return 0, api.ErrForm
	}
	slot, _ := strconv.Atoi(m[1])
	gen, _ := strconv.Atoi(m[2])
	if slot > 4095 || gen < 1 || gen > 65535 {
		return 0, api.ErrRange
	}
	return 4096*gen + slot, api.OK
}

// P1.3: all texts of up to eight of five signs: what they are hangs on which digit is a nought, and on where the dot stands.
func TestParseAll(t *testing.T) {
	var look func(s string, left int)
	look = func(s string, left int) {
		h, e := Parse(s)
		if want, err := parsed(s); h != want || e != err {
			t.Fatalf("Parse(%q): %d, %d; want %d, %d", s, h, e, want, err)
		}
		for _, sign := range "04.6x" {
			if left > 0 {
				look(s+string(sign), left-1)
			}
		}
	}
	look("", 8)
}

// told fails, unless the handle is told by its slot and its generation, and by its text, and both tell it alone.
func told(t *testing.T, slot, gen int) {
	h, e := Make(slot, gen)
	if e != api.OK || !Fine(h) || Slot(h) != slot || Gen(h) != gen {
		t.Fatalf("slot %d, generation %d: %d, %d: %v, %d, %d", slot, gen, h, e, Fine(h), Slot(h), Gen(h))
	}
	s, e := Text(h)
	if want := strconv.Itoa(slot) + "." + strconv.Itoa(gen); s != want || e != api.OK {
		t.Fatalf("Text(%d): %q, %d; want %q", h, s, e, want)
	}
	if back, e := Parse(s); back != h || e != api.OK {
		t.Fatalf("Parse(%q): %d, %d; want %d", s, back, e, h)
	}
}

// P1.4: all slots of the edges' generations, and all generations of the edges' slots.
func TestTold(t *testing.T) {
	for slot := range api.MaxSlot + 1 {
		for _, gen := range []int{1, 2, 9, 10, 4096, 65534, 65535} {
			told(t, slot, gen)
		}
	}
	for gen := 1; gen <= api.MaxGen; gen++ {
		for _, slot := range []int{0, 1, 9, 10, 4094, 4095} {
			told(t, slot, gen)
		}
	}
}

// P1.4: handles that are unlike have neither their slots and generations in common, nor their texts.
func TestUnlike(t *testing.T) {
	places := map[[2]int]int{}
	texts := map[string]int{}
	look := func(h int) {
		place := [2]int{Slot(h), Gen(h)}
		if o, ok := places[place]; ok {
			t.Errorf("%d and %d: both slot %d, generation %d", o, h, place[0], place[1])
		}
		places[place] = h
		s, _ := Text(h)
		if o, ok := texts[s]; ok {
			t.Errorf("%d and %d: both %q", o, h, s)
		}
		texts[s] = h
	}
	for h := 4096; h < 4096*20; h++ {
		look(h)
	}
	for h := 4096 * 65520; h < 4096*65536; h++ {
		look(h)
	}
}
