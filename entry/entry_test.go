package entry_test

import (
	"math"
	"testing"

	"cofferdam/api"
	"cofferdam/entry"
)

const flags = 1 << 6 // how many ways there are to set an entry's six flags

// flagged is the entry whose flags are the bits of f, in the order in which api.Entry has them.
func flagged(f, at int) api.Entry {
	is := func(i int) bool { return f>>i&1 == 1 }
	return api.Entry{Present: is(0), Swapped: is(1), Read: is(2), Write: is(3), Accessed: is(4), Dirty: is(5), At: at}
}

// mayBe is the chapter's word for it, clause by clause.
func mayBe(x api.Entry) bool {
	if x == (api.Entry{}) {
		return true
	}
	if x.Present == x.Swapped || x.Write && !x.Read || x.At < 0 {
		return false
	}
	if x.Swapped {
		return x.At <= 1023 && !x.Accessed && !x.Dirty
	}
	return x.At <= 4095
}

// places are numbers around what At may be, and numbers of which a word would keep only a part.
func places() []int {
	l := []int{0, 1, 2, 5, 255, 256, 511, 512, 1022, 1023, 1024, 1025, 2047, 2048, 4094, 4095, 4096, 4097, 5000, 8191, 8192,
		1 << 31, 1<<31 - 1, 1 << 32, 1<<32 + 5, 1<<55 - 1, 1 << 55, 1 << 56, 1<<56 + 1, 1<<56 + 1023, 1<<56 + 4095, 1<<62 + 7,
		math.MaxInt, math.MaxInt - 1, math.MinInt, math.MinInt + 1, math.MinInt + 5}
	for _, at := range l {
		if at > 0 {
			l = append(l, -at)
		}
	}
	return l
}

// each calls f with every way to set the flags, with each of the places and with each frame's number.
func each(f func(x api.Entry)) {
	for g := range flags {
		for _, at := range places() {
			f(flagged(g, at))
		}
		for at := range api.MaxFrames {
			f(flagged(g, at))
		}
	}
}

// words is the word of each entry that may be, reckoned by the chapter's table of bits.
func words() map[uint64]api.Entry {
	all := map[uint64]api.Entry{}
	for f := range flags {
		for at := range api.MaxFrames {
			if x := flagged(f, at); mayBe(x) {
				all[uint64(f)+256*uint64(at)] = x
			}
		}
	}
	return all
}

// refused fails the test unless nobody takes x.
func refused(t *testing.T, x api.Entry) {
	t.Helper()
	if e := entry.Check(x); e != api.ErrEntry {
		t.Errorf("Check(%+v) = %d; want ErrEntry", x, e)
	}
	if w, e := entry.Make(x); w != 0 || e != api.ErrEntry {
		t.Errorf("Make(%+v) = %d, %d; want 0, ErrEntry", x, w, e)
	}
	for _, write := range []bool{false, true} {
		if why, e := entry.Allows(x, write); why != 0 || e != api.ErrEntry {
			t.Errorf("Allows(%+v, %v) = %d, %d; want 0, ErrEntry", x, write, why, e)
		}
	}
}

// noWord fails the test unless w is no entry's word.
func noWord(t *testing.T, w uint64) {
	t.Helper()
	if x, e := entry.Read(w); x != (api.Entry{}) || e != api.ErrEntry {
		t.Errorf("Read(%#x) = %+v, %d; want the empty entry, ErrEntry", w, x, e)
	}
}

// P7.1

func TestP7_1Examples(t *testing.T) {
	for _, c := range []struct {
		x api.Entry
		w uint64
	}{
		{api.Entry{}, 0},
		{api.Entry{Present: true}, 1},
		{api.Entry{Present: true, Read: true, At: 5}, 1285},
		{api.Entry{Swapped: true, Read: true, Write: true, At: 1023}, 261902},
	} {
		if e := entry.Check(c.x); e != api.OK {
			t.Errorf("Check(%+v) = %d; want OK", c.x, e)
		}
		if w, e := entry.Make(c.x); w != c.w || e != api.OK {
			t.Errorf("Make(%+v) = %d, %d; want %d", c.x, w, e, c.w)
		}
		if x, e := entry.Read(c.w); x != c.x || e != api.OK {
			t.Errorf("Read(%d) = %+v, %d; want %+v", c.w, x, e, c.x)
		}
	}
	for _, w := range []uint64{3, 64, 9, 18} {
		noWord(t, w)
	}
	for _, x := range []api.Entry{{Present: true, At: 4096}, {Swapped: true, At: 1024}, {At: 1}, {Present: true, Write: true}} {
		refused(t, x)
	}
}

// Each flag has a bit of its own, and At the bits from 8 on.
func TestP7_1Bits(t *testing.T) {
	for _, c := range []struct {
		x api.Entry
		w uint64
	}{
		{api.Entry{Present: true}, 1 << 0},
		{api.Entry{Swapped: true}, 1 << 1},
		{api.Entry{Present: true, Read: true}, 1<<0 | 1<<2},
		{api.Entry{Present: true, Read: true, Write: true}, 1<<0 | 1<<2 | 1<<3},
		{api.Entry{Present: true, Accessed: true}, 1<<0 | 1<<4},
		{api.Entry{Present: true, Dirty: true}, 1<<0 | 1<<5},
		{api.Entry{Present: true, At: 1}, 1<<0 | 1<<8},
		{api.Entry{Present: true, At: 2048}, 1<<0 | 1<<19},
		{api.Entry{Swapped: true, At: 512}, 1<<1 | 1<<17},
		{api.Entry{Present: true, Read: true, Write: true, Accessed: true, Dirty: true, At: 4095}, 0xfff3d},
		{api.Entry{Swapped: true, Read: true, Write: true, At: 1023}, 0x3ff0e},
	} {
		if w, e := entry.Make(c.x); w != c.w || e != api.OK {
			t.Errorf("Make(%+v) = %#x, %d; want %#x", c.x, w, e, c.w)
		}
		if x, e := entry.Read(c.w); x != c.x || e != api.OK {
			t.Errorf("Read(%#x) = %+v, %d; want %+v", c.w, x, e, c.x)
		}
	}
}

func TestP7_1WhatMayBe(t *testing.T) {
	each(func(x api.Entry) {
		if !mayBe(x) {
			refused(t, x)
		} else if e := entry.Check(x); e != api.OK {
			t.Errorf("Check(%+v) = %d; want OK", x, e)
		}
	})
}

// Each clause alone is enough to refuse an entry that may be without it.
func TestP7_1WhatMayNotBe(t *testing.T) {
	for _, x := range []api.Entry{
		{Present: true, Swapped: true},
		{Present: true, Swapped: true, Read: true, At: 7},
		{Read: true}, {Read: true, Write: true}, {Accessed: true}, {Dirty: true}, {At: 1}, {At: 4095}, {At: -1},
		{Present: true, At: -1}, {Present: true, At: 4096}, {Present: true, At: 1 << 56}, {Present: true, At: math.MaxInt}, {Present: true, At: math.MinInt},
		{Swapped: true, At: -1}, {Swapped: true, At: 1024}, {Swapped: true, At: 4095}, {Swapped: true, At: 1 << 56}, {Swapped: true, At: math.MaxInt}, {Swapped: true, At: math.MinInt},
		{Present: true, Write: true}, {Swapped: true, Write: true}, {Present: true, Write: true, Accessed: true, Dirty: true, At: 9},
		{Swapped: true, Accessed: true}, {Swapped: true, Dirty: true}, {Swapped: true, Read: true, Write: true, Accessed: true, Dirty: true},
	} {
		refused(t, x)
	}
}

// Read of every word up to far behind the greatest one that an entry has.
func TestP7_1EachWord(t *testing.T) {
	all := words()
	if n := 1 + 3*4*4096 + 3*1024; len(all) != n {
		t.Fatalf("%d words; want %d", len(all), n)
	}
	for w := range uint64(1 << 21) {
		want, is := all[w]
		if !is {
			noWord(t, w)
			continue
		}
		if x, e := entry.Read(w); x != want || e != api.OK {
			t.Errorf("Read(%#x) = %+v, %d; want %+v", w, x, e, want)
		}
	}
}

// A bit that no word has makes any word none.
func TestP7_1BitsThatNoneHas(t *testing.T) {
	for w := range words() {
		noWord(t, w|1<<6)
		noWord(t, w|1<<7)
		for bit := 20; bit < 64; bit++ {
			noWord(t, w|1<<bit)
		}
	}
	noWord(t, math.MaxUint64)
}

// P7.2

func TestP7_2Examples(t *testing.T) {
	for _, c := range []struct {
		x     api.Entry
		write bool
		why   uint8
	}{
		{api.Entry{Present: true, Read: true}, false, 0},
		{api.Entry{Present: true, Read: true}, true, 3},
		{api.Entry{Swapped: true}, true, 2},
		{api.Entry{}, false, 1},
		{api.Entry{}, true, 1},
		{api.Entry{Present: true}, false, 3},
		{api.Entry{Present: true}, true, 3},
		{api.Entry{Present: true, Read: true, Write: true, At: 4095}, false, 0},
		{api.Entry{Present: true, Read: true, Write: true, At: 4095}, true, 0},
		{api.Entry{Present: true, Accessed: true, Dirty: true}, true, 3},
		{api.Entry{Swapped: true, Read: true, Write: true, At: 1023}, false, 2},
		{api.Entry{Swapped: true, Read: true, Write: true, At: 1023}, true, 2},
	} {
		if why, e := entry.Allows(c.x, c.write); why != c.why || e != api.OK {
			t.Errorf("Allows(%+v, %v) = %d, %d; want %d", c.x, c.write, why, e, c.why)
		}
	}
}

// why is the chapter's word for it, of an entry that may be.
func why(x api.Entry, write bool) uint8 {
	if x == (api.Entry{}) {
		return api.FaultAbsent
	}
	if x.Swapped {
		return api.FaultSwap
	}
	if write && !x.Write || !write && !x.Read {
		return api.FaultPerm
	}
	return api.FaultNone
}

func TestP7_2EachEntry(t *testing.T) {
	for _, x := range words() {
		for _, write := range []bool{false, true} {
			if got, e := entry.Allows(x, write); got != why(x, write) || e != api.OK {
				t.Errorf("Allows(%+v, %v) = %d, %d; want %d", x, write, got, e, why(x, write))
			}
		}
	}
}

func TestP7_2WhatMayNotBe(t *testing.T) {
	each(func(x api.Entry) {
		for _, write := range []bool{false, true} {
			got, e := entry.Allows(x, write)
			if want := entry.Check(x); e != want {
				t.Errorf("Allows(%+v, %v): %d; want Check's %d", x, write, e, want)
			}
			if e != api.OK && got != 0 {
				t.Errorf("Allows(%+v, %v) = %d beside an error; want 0", x, write, got)
			}
		}
	})
}

// P7.3

func TestP7_3ReadOfMake(t *testing.T) {
	each(func(x api.Entry) {
		w, e := entry.Make(x)
		if want := entry.Check(x); e != want {
			t.Errorf("Make(%+v): %d; want Check's %d", x, e, want)
		}
		if e != api.OK {
			return
		}
		if y, e := entry.Read(w); y != x || e != api.OK {
			t.Errorf("Read(Make(%+v)) = %+v, %d", x, y, e)
		}
	})
}

func TestP7_3MakeOfRead(t *testing.T) {
	n := 0
	for w := range uint64(1 << 21) {
		x, e := entry.Read(w)
		if e != api.OK {
			continue
		}
		n++
		if v, e := entry.Make(x); v != w || e != api.OK {
			t.Errorf("Make(Read(%#x)) = %#x, %d", w, v, e)
		}
	}
	if n != len(words()) {
		t.Errorf("%d words are read; want %d", n, len(words()))
	}
}

func TestP7_3EmptyEntry(t *testing.T) {
	if w, e := entry.Make(api.Entry{}); w != 0 || e != api.OK {
		t.Errorf("Make(the empty entry) = %d, %d; want 0", w, e)
	}
	if x, e := entry.Read(0); x != (api.Entry{}) || e != api.OK {
		t.Errorf("Read(0) = %+v, %d; want the empty entry", x, e)
	}
	each(func(x api.Entry) {
		if w, e := entry.Make(x); e == api.OK && w == 0 && x != (api.Entry{}) {
			t.Errorf("Make(%+v) = 0, as the empty entry's", x)
		}
	})
}

func TestP7_3StoreAndLoad(t *testing.T) {
	each(func(x api.Entry) {
		store, e := entry.Allows(x, true)
		if e != api.OK || store != api.FaultNone {
			return
		}
		if load, e := entry.Allows(x, false); load != api.FaultNone || e != api.OK {
			t.Errorf("%+v allows a store, but a load is %d, %d", x, load, e)
		}
	})
}
