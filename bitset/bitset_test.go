package bitset

import (
	"math"
	"math/rand"
	"slices"
	"testing"
)

// edges are the first and last ids of all, and of a set's numbers.
var edges = []int{0, 63, 64, 127, 128, 191, 192, 255}

// noIDs are numbers that are no ids: beside the first one and the last one, such as have an id's bits within them, and the ends of the type.
var noIDs = []int{math.MinInt, math.MinInt + 1, math.MinInt + 70, -1 << 32, -1<<32 + 3, -65536, -512, -257, -256, -255, -192, -191, -128, -127, -65, -64, -63, -2, -1, 256, 257, 319, 320, 326, 511, 512, 65536, 65539, 1 << 32, 1<<32 + 3, math.MaxInt - 255, math.MaxInt - 1, math.MaxInt}

// whole is the set of all ids.
var whole = Set{math.MaxUint64, math.MaxUint64, math.MaxUint64, math.MaxUint64}

// plain is a set told another way: of each id, whether it is in.
type plain [256]bool

// told is the plain set of these ids, all of which are ids.
func told(ids ...int) plain {
	var p plain
	for _, id := range ids {
		p[id] = true
	}
	return p
}

// read is the plain set of a set's bits, as the chapter says what each of them stands for.
func read(s Set) plain {
	var p plain
	for k := range 4 {
		for i := range 64 {
			p[64*k+i] = s[k]/(1<<i)%2 == 1
		}
	}
	return p
}

// both puts two plain sets together, id by id.
func both(a, b plain, in func(a, b bool) bool) plain {
	var p plain
	for id := range p {
		p[id] = in(a[id], b[id])
	}
	return p
}

// ids are the plain set's ids, rising.
func (p plain) ids() []int {
	var l []int
	for id, in := range p {
		if in {
			l = append(l, id)
		}
	}
	return l
}

// next is the least id that is not below a number, and whether there is one.
func (p plain) next(from int) (int, bool) {
	for id, in := range p {
		if in && id >= from {
			return id, true
		}
	}
	return 0, false
}

// is fails, unless the set's bits are those of the ids, and all that may be asked of it answers so.
func is(t *testing.T, s Set, want plain) {
	t.Helper()
	if got := read(s); got != want {
		t.Fatalf("set %x: the ids %v; want %v", s, got.ids(), want.ids())
	}
	ids := want.ids()
	if got := List(s); !slices.Equal(got, ids) {
		t.Fatalf("List(%x): %v; want %v", s, got, ids)
	}
	if got := slices.Collect(All(s)); !slices.Equal(got, ids) {
		t.Fatalf("All(%x): %v; want %v", s, got, ids)
	}
	if got := Len(s); got != len(ids) {
		t.Fatalf("Len(%x): %d; want %d", s, got, len(ids))
	}
	for id, in := range want {
		if got := Has(s, id); got != in {
			t.Fatalf("Has(%x, %d): %v; want %v", s, id, got, in)
		}
	}
}

// sets are such as differ in what their numbers have: none, all, an edge alone, or without it, whole numbers, every second id, and some by chance.
func sets() []Set {
	l := []Set{{}, whole, {8, 64}, {1, 1, 1, 1}, {1 << 63, 1 << 63, 1 << 63, 1 << 63}}
	for _, id := range edges {
		var s Set
		s[id/64] = 1 << (id % 64)
		l = append(l, s)
		s[id/64] = ^s[id/64]
		l = append(l, s)
	}
	for k := range 4 {
		var s Set
		s[k] = math.MaxUint64
		l = append(l, s)
	}
	const even, odd = 0x5555555555555555, 0xaaaaaaaaaaaaaaaa
	l = append(l, Set{even, even, even, even}, Set{odd, odd, odd, odd}, Set{even, odd, 0, math.MaxUint64})
	r := rand.New(rand.NewSource(4))
	for range 6 {
		l = append(l, Set{r.Uint64(), r.Uint64(), r.Uint64(), r.Uint64()})
		l = append(l, Set{r.Uint64() & r.Uint64() & r.Uint64(), r.Uint64() & r.Uint64() & r.Uint64(), 0, r.Uint64() & r.Uint64() & r.Uint64()})
	}
	return l
}

// The chapter's example.
func TestExample(t *testing.T) {
	if s := Of(3, 70); s != (Set{8, 64, 0, 0}) {
		t.Fatal(s)
	}
}

// P4.1: Of, in the numbers themselves: no id at all, each edge, several, in whatever order, and more than once.
func TestOf(t *testing.T) {
	for _, c := range []struct {
		ids  []int
		want Set
	}{
		{nil, Set{}},
		{[]int{}, Set{}},
		{[]int{0}, Set{1, 0, 0, 0}},
		{[]int{1}, Set{2, 0, 0, 0}},
		{[]int{62}, Set{1 << 62, 0, 0, 0}},
		{[]int{63}, Set{1 << 63, 0, 0, 0}},
		{[]int{64}, Set{0, 1, 0, 0}},
		{[]int{127}, Set{0, 1 << 63, 0, 0}},
		{[]int{128}, Set{0, 0, 1, 0}},
		{[]int{191}, Set{0, 0, 1 << 63, 0}},
		{[]int{192}, Set{0, 0, 0, 1}},
		{[]int{255}, Set{0, 0, 0, 1 << 63}},
		{edges, Set{1 | 1<<63, 1 | 1<<63, 1 | 1<<63, 1 | 1<<63}},
		{[]int{255, 0, 128, 3, 64}, Set{9, 1, 1, 1 << 63}},
		{[]int{5, 5}, Set{32, 0, 0, 0}},
		{[]int{70, 3, 70, 70, 3}, Set{8, 64, 0, 0}},
		{[]int{255, 0, 255}, Set{1, 0, 0, 1 << 63}},
	} {
		given := slices.Clone(c.ids)
		got := Of(c.ids...)
		if got != c.want {
			t.Errorf("Of(%v): %x; want %x", c.ids, got, c.want)
		}
		is(t, got, told(c.ids...))
		if !slices.Equal(c.ids, given) {
			t.Errorf("Of has written to its list: %v; was %v", c.ids, given)
		}
	}
	is(t, Of(), told())
}

// P4.1: Of all 256 ids, rising, falling, and twice.
func TestOfAll(t *testing.T) {
	var up []int
	for id := range 256 {
		up = append(up, id)
	}
	down := slices.Clone(up)
	slices.Reverse(down)
	for _, l := range [][]int{up, down, slices.Concat(up, up), slices.Concat(down, up)} {
		if got := Of(l...); got != whole {
			t.Errorf("Of all ids: %x", got)
		}
	}
	is(t, whole, told(up...))
}

// P4.1: each id, alone, taken in, and taken out.
func TestEachID(t *testing.T) {
	for id := range 256 {
		one := told(id)
		is(t, Of(id), one)
		is(t, Add(Set{}, id), one)
		is(t, Drop(Of(id), id), told())
		is(t, Drop(whole, id), both(read(whole), one, func(a, b bool) bool { return a && !b }))
		is(t, Add(Drop(whole, id), id), read(whole))
	}
}

// P4.1: numbers that are no ids are in no set, and are not taken in; those that are given beside them are.
func TestNoIDs(t *testing.T) {
	for _, s := range sets() {
		for _, no := range noIDs {
			if got := Add(s, no); got != s {
				t.Errorf("Add(%x, %d): %x", s, no, got)
			}
			if got := Drop(s, no); got != s {
				t.Errorf("Drop(%x, %d): %x", s, no, got)
			}
			if Has(s, no) {
				t.Errorf("Has(%x, %d)", s, no)
			}
		}
	}
	for _, no := range noIDs {
		if got := Of(no); got != (Set{}) {
			t.Errorf("Of(%d): %x", no, got)
		}
		is(t, Of(3, no, 70, no), told(3, 70))
		is(t, Of(no, 255, 0), told(0, 255))
	}
	is(t, Of(noIDs...), told())
	is(t, Of(slices.Concat(noIDs, edges, noIDs)...), told(edges...))
}

// P4.1: Add and Drop of each id, in sets that have it, and that have it not; a second time nothing changes, and the set that was handed in never does.
func TestAddDrop(t *testing.T) {
	for _, s := range sets() {
		before := read(s)
		for id := range 256 {
			more, less := before, before
			more[id], less[id] = true, false
			added, dropped := Add(s, id), Drop(s, id)
			if read(added) != more || Add(added, id) != added {
				t.Errorf("Add(%x, %d): %x, and again %x", s, id, added, Add(added, id))
			}
			if read(dropped) != less || Drop(dropped, id) != dropped {
				t.Errorf("Drop(%x, %d): %x, and again %x", s, id, dropped, Drop(dropped, id))
			}
			if !Has(added, id) || Has(dropped, id) {
				t.Errorf("%d: not in %x, or in %x", id, added, dropped)
			}
		}
		if read(s) != before {
			t.Errorf("the set has changed: %x", s)
		}
	}
}

// P4.1, P4.3: all that may be asked of a set, of sets of many kinds, which no call here made.
func TestAsk(t *testing.T) {
	for _, s := range sets() {
		is(t, s, read(s))
	}
}

// P4.1: Len of sets that come to have one id more each time, and then one less.
func TestLen(t *testing.T) {
	var s Set
	for n := range 256 {
		if Len(s) != n {
			t.Fatalf("Len(%x): %d; want %d", s, Len(s), n)
		}
		s = Add(s, n*37%256)
	}
	for n := range 256 {
		if Len(s) != 256-n {
			t.Fatalf("Len(%x): %d; want %d", s, Len(s), 256-n)
		}
		s = Drop(s, n*91%256)
	}
	if Len(s) != 0 {
		t.Fatalf("Len(%x): %d; want 0", s, Len(s))
	}
}

// P4.1: Next, by the chapter's words: from below 0, from ids that are in, from between them, from behind the last one, from above 255; and a 0 that is there, or stands for none.
func TestNext(t *testing.T) {
	few := Of(3, 70, 191)
	for _, c := range []struct {
		s    Set
		from int
		id   int
		ok   bool
	}{
		{few, math.MinInt, 3, true}, {few, -1, 3, true}, {few, 0, 3, true}, {few, 2, 3, true}, {few, 3, 3, true},
		{few, 4, 70, true}, {few, 63, 70, true}, {few, 64, 70, true}, {few, 70, 70, true},
		{few, 71, 191, true}, {few, 128, 191, true}, {few, 190, 191, true}, {few, 191, 191, true},
		{few, 192, 0, false}, {few, 255, 0, false}, {few, 256, 0, false}, {few, 1<<32 + 3, 0, false}, {few, math.MaxInt, 0, false},
		{Set{}, math.MinInt, 0, false}, {Set{}, -1, 0, false}, {Set{}, 0, 0, false}, {Set{}, 255, 0, false}, {Set{}, math.MaxInt, 0, false},
		{Of(0), math.MinInt, 0, true}, {Of(0), -1, 0, true}, {Of(0), 0, 0, true}, {Of(0), 1, 0, false},
		{Of(255), math.MinInt, 255, true}, {Of(255), 254, 255, true}, {Of(255), 255, 255, true}, {Of(255), 256, 0, false},
	} {
		if id, ok := Next(c.s, c.from); id != c.id || ok != c.ok {
			t.Errorf("Next(%x, %d): %d, %v; want %d, %v", c.s, c.from, id, ok, c.id, c.ok)
		}
	}
}

// P4.1: Next from each id, and from numbers that are none, of sets of many kinds.
func TestNextFromAll(t *testing.T) {
	froms := slices.Clone(noIDs)
	for id := range 256 {
		froms = append(froms, id)
	}
	for _, s := range sets() {
		for _, from := range froms {
			want, there := read(s).next(from)
			if id, ok := Next(s, from); id != want || ok != there {
				t.Errorf("Next(%x, %d): %d, %v; want %d, %v", s, from, id, ok, want, there)
			}
		}
	}
}

// P4.1: from one id to the next one, a set is gone through.
func TestNextByNext(t *testing.T) {
	for _, s := range sets() {
		var got []int
		for id, ok := Next(s, 0); ok; id, ok = Next(s, id+1) {
			got = append(got, id)
		}
		if want := read(s).ids(); !slices.Equal(got, want) {
			t.Errorf("%x: %v; want %v", s, got, want)
		}
	}
}

// P4.2: what two sets have together, in the numbers themselves.
func TestTwo(t *testing.T) {
	a, b := Of(0, 1, 63, 64, 128, 255), Of(1, 2, 64, 127, 192, 255)
	is(t, Union(a, b), told(0, 1, 2, 63, 64, 127, 128, 192, 255))
	is(t, Inter(a, b), told(1, 64, 255))
	is(t, Less(a, b), told(0, 63, 128))
	is(t, Less(b, a), told(2, 127, 192))
	for _, c := range []struct {
		a, b Set
		want bool
	}{
		{a, b, false}, {b, a, false}, {a, a, true},
		{Set{}, Set{}, true}, {Set{}, a, true}, {a, Set{}, false}, {a, whole, true}, {whole, a, false}, {whole, whole, true},
		{Of(1, 64), a, true}, {Of(1, 64), b, true}, {Of(1, 64, 255), a, true}, {Of(1, 64, 254), a, false}, {a, Of(1, 64), false},
		{Of(0), Of(64), false}, {Of(0), Of(0, 64), true}, {Of(0, 64), Of(0), false}, {Of(192), Of(128), false}, {Of(255), Of(254), false},
	} {
		if got := Sub(c.a, c.b); got != c.want {
			t.Errorf("Sub(%x, %x): %v; want %v", c.a, c.b, got, c.want)
		}
	}
}

// P4.2: all pairs of sets of many kinds, id by id; neither changes.
func TestPairs(t *testing.T) {
	l := sets()
	for _, a := range l {
		for _, b := range l {
			x, y := read(a), read(b)
			alone := both(x, y, func(a, b bool) bool { return a && !b })
			if got := Union(a, b); read(got) != both(x, y, func(a, b bool) bool { return a || b }) {
				t.Errorf("Union(%x, %x): %x", a, b, got)
			}
			if got := Inter(a, b); read(got) != both(x, y, func(a, b bool) bool { return a && b }) {
				t.Errorf("Inter(%x, %x): %x", a, b, got)
			}
			if got := Less(a, b); read(got) != alone {
				t.Errorf("Less(%x, %x): %x", a, b, got)
			}
			if got := Sub(a, b); got != (alone == plain{}) {
				t.Errorf("Sub(%x, %x): %v", a, b, got)
			}
			if read(a) != x || read(b) != y {
				t.Fatalf("a set has changed: %x, %x", a, b)
			}
		}
	}
}

// P4.3: a sequence that is not asked to go on ends there, at each place where it may; and it may be gone through anew.
func TestAllStops(t *testing.T) {
	for _, s := range sets() {
		want, seq := read(s).ids(), All(s)
		for most := 1; most <= len(want); most++ {
			var got []int
			seq(func(id int) bool {
				got = append(got, id)
				return len(got) < most
			})
			if !slices.Equal(got, want[:most]) {
				t.Fatalf("All(%x), %d of it: %v; want %v", s, most, got, want[:most])
			}
		}
		for range 2 {
			if got := slices.Collect(seq); !slices.Equal(got, want) {
				t.Fatalf("All(%x), anew: %v; want %v", s, got, want)
			}
		}
	}
	for range All(Set{}) {
		t.Fatal("All of none has one")
	}
}

// P4.3: a sequence may be gone through within itself, and has the ids that the set had when it was asked.
func TestAllNested(t *testing.T) {
	s := Of(3, 70, 255)
	seq := All(s)
	s = Add(s, 4)
	var got []int
	for a := range seq {
		for b := range seq {
			s = Drop(s, b)
			got = append(got, 1000*a+b)
		}
	}
	if want := []int{3003, 3070, 3255, 70003, 70070, 70255, 255003, 255070, 255255}; !slices.Equal(got, want) {
		t.Errorf("%v; want %v", got, want)
	}
	is(t, s, told(4))
}

// P4.3: each list is in memory of its own; that of none is empty.
func TestListNew(t *testing.T) {
	s := Of(3, 70)
	a, b := List(s), List(s)
	a[0], a[1] = 8, 9
	_ = append(a, 1)
	if want := []int{3, 70}; !slices.Equal(b, want) || !slices.Equal(List(s), want) {
		t.Errorf("%v, %v; want %v", b, List(s), want)
	}
	if got := List(Set{}); len(got) != 0 {
		t.Errorf("List of none: %v", got)
	}
}

// P4.4: a set is what its list tells: lists lead back to their sets, and sets are the same just if their lists are.
func TestWhatItsListTells(t *testing.T) {
	l := sets()
	for _, a := range l {
		ids := List(a)
		if got := Of(ids...); got != a {
			t.Errorf("Of(%v): %x; want %x", ids, got, a)
		}
		slices.Reverse(ids)
		if got := Of(slices.Concat(ids, ids)...); got != a {
			t.Errorf("Of(%v), twice: %x; want %x", ids, got, a)
		}
		for _, b := range l {
			if (a == b) != slices.Equal(List(a), List(b)) {
				t.Errorf("%x, %x: the lists %v, %v", a, b, List(a), List(b))
			}
		}
	}
}

// P4.4: the laws of one set, and of two.
func TestLawsOfTwo(t *testing.T) {
	l := sets()
	for _, a := range l {
		law(t, "one", a, Set{}, Union(a, a) == a && Inter(a, a) == a && Less(a, a) == Set{} && Sub(a, a))
		law(t, "none", a, Set{}, Union(a, Set{}) == a && Inter(a, Set{}) == Set{} && Less(a, Set{}) == a && Less(Set{}, a) == Set{} && Sub(Set{}, a))
		law(t, "whole", a, whole, Union(a, whole) == whole && Inter(a, whole) == a && Less(a, whole) == Set{} && Sub(a, whole))
		law(t, "the rest", a, whole, Union(a, Less(whole, a)) == whole && Less(whole, Less(whole, a)) == a && Len(Less(whole, a)) == 256-Len(a))
		for _, b := range l {
			law(t, "in whatever order", a, b, Union(a, b) == Union(b, a) && Inter(a, b) == Inter(b, a))
			law(t, "swallowed", a, b, Union(a, Inter(a, b)) == a && Inter(a, Union(a, b)) == a)
			law(t, "parted", a, b, Union(Less(a, b), Inter(a, b)) == a && Inter(Less(a, b), b) == Set{})
			law(t, "turned round", a, b, Less(whole, Union(a, b)) == Inter(Less(whole, a), Less(whole, b)))
			law(t, "counted", a, b, Len(Union(a, b))+Len(Inter(a, b)) == Len(a)+Len(b))
			law(t, "within", a, b, Sub(Inter(a, b), a) && Sub(a, Union(a, b)) && Sub(Less(a, b), a))
			law(t, "Sub", a, b, Sub(a, b) == (Union(a, b) == b) && Sub(a, b) == (Inter(a, b) == a) && (Sub(a, b) && Sub(b, a)) == (a == b))
		}
	}
}

// law fails, unless the law holds.
func law(t *testing.T, name string, a, b Set, holds bool) {
	t.Helper()
	if !holds {
		t.Errorf("%x, %x: not %s", a, b, name)
	}
}

// P4.4: the laws of three sets.
func TestLawsOfThree(t *testing.T) {
	l := sets()
	for _, a := range l {
		for _, b := range l {
			for _, c := range l {
				if Union(Union(a, b), c) != Union(a, Union(b, c)) || Inter(Inter(a, b), c) != Inter(a, Inter(b, c)) {
					t.Errorf("%x, %x, %x: not the same, in whichever order", a, b, c)
				}
				if Inter(a, Union(b, c)) != Union(Inter(a, b), Inter(a, c)) || Union(a, Inter(b, c)) != Inter(Union(a, b), Union(a, c)) {
					t.Errorf("%x, %x, %x: not parted", a, b, c)
				}
				if Less(Less(a, b), c) != Less(a, Union(b, c)) {
					t.Errorf("%x, %x, %x: not one Less after the other", a, b, c)
				}
				if Sub(a, b) && Sub(b, c) && !Sub(a, c) {
					t.Errorf("%x, %x, %x: Sub does not go on", a, b, c)
				}
			}
		}
	}
}

// P4.4: long runs of calls, against the plain set.
func TestManyCalls(t *testing.T) {
	r := rand.New(rand.NewSource(4))
	var s Set
	var p plain
	for i := range 20000 {
		id := r.Intn(260) - 2
		known := id >= 0 && id < 256
		if Has(s, id) != (known && p[id]) {
			t.Fatalf("Has(%x, %d): %v", s, id, Has(s, id))
		}
		in := r.Intn(3) < 1+i/5000%2
		if in {
			s = Add(s, id)
		} else {
			s = Drop(s, id)
		}
		if known {
			p[id] = in
		}
		if i%100 == 99 {
			is(t, s, p)
		}
	}
}
