package tlb_test

import (
	"cmp"
	"math"
	"slices"
	"testing"

	"cofferdam/api"
	"cofferdam/tlb"
)

const lastSpace = 16*api.MaxParts - 1

// of is a translation of a page, whose frame and bits tell which one it is.
func of(asid, page int) api.Trans {
	return api.Trans{Asid: asid, Page: page, Frame: (16*asid + page) % api.MaxFrames, Read: true, Write: page%2 == 0}
}

func made(t *testing.T, n int, l ...api.Trans) *tlb.TLB {
	t.Helper()
	b, e := tlb.New(n)
	if b == nil || e != api.OK {
		t.Fatalf("New(%d) = %v, %d", n, b, e)
	}
	fill(t, b, l...)
	return b
}

func fill(t *testing.T, b *tlb.TLB, l ...api.Trans) {
	t.Helper()
	for _, x := range l {
		if e := b.Fill(x); e != api.OK {
			t.Fatalf("Fill(%+v) refused: %d", x, e)
		}
	}
}

// holds fails the test unless the TLB's translations are those, the youngest first, by All and by Peek.
func holds(t *testing.T, b *tlb.TLB, want ...api.Trans) {
	t.Helper()
	if l := b.All(); !slices.Equal(l, want) {
		t.Fatalf("All: %+v, want %+v", l, want)
	}
	for _, x := range want {
		if y, is, e := b.Peek(x.Asid, x.Page); !is || y != x || e != api.OK {
			t.Fatalf("Peek(%d, %d) = %+v, %v, %d, want %+v", x.Asid, x.Page, y, is, e, x)
		}
	}
}

// answers fails the test unless a call has answered as it should: the translation, or zero and false, and no error.
func answers(t *testing.T, what string, x api.Trans, is bool, e api.Errno, want api.Trans, there bool) {
	t.Helper()
	if !there {
		want = api.Trans{}
	}
	if x != want || is != there || e != api.OK {
		t.Fatalf("%s = %+v, %v, %d, want %+v, %v", what, x, is, e, want, there)
	}
}

// dice are numbers that look like chance, the same ones in each run.
type dice uint64

func (d *dice) below(n int) int {
	*d = *d*6364136223846793005 + 1442695040888963407
	return int(uint64(*d) >> 33 % uint64(n))
}

func (d *dice) bit() bool { return d.below(2) == 1 }

// Which page of which address space: what the diary goes by.
type name struct{ asid, page int }

// A note is a translation, and when it was filled or found last.
type note struct {
	x    api.Trans
	when int
}

// diary tells what a TLB holds by the times of its fills and finds, without a row.
type diary struct {
	room, now int
	notes     map[name]note
}

func newDiary(room int) *diary { return &diary{room: room, notes: map[name]note{}} }

func (d *diary) put(x api.Trans) {
	d.now++
	d.notes[name{x.Asid, x.Page}] = note{x, d.now}
	if len(d.notes) > d.room {
		l := d.all()
		last := l[len(l)-1]
		delete(d.notes, name{last.Asid, last.Page})
	}
}

func (d *diary) get(asid, page int) (api.Trans, bool) {
	n, is := d.notes[name{asid, page}]
	return n.x, is
}

func (d *diary) mark(asid, page int) bool {
	n, is := d.notes[name{asid, page}]
	if is {
		n.x.Dirty = true
		d.notes[name{asid, page}] = n
	}
	return is
}

// drop is how many there were of those that a function picks.
func (d *diary) drop(gone func(api.Trans) bool) int {
	was := len(d.notes)
	for k, n := range d.notes {
		if gone(n.x) {
			delete(d.notes, k)
		}
	}
	return was - len(d.notes)
}

func (d *diary) all() []api.Trans {
	var l []note
	for _, n := range d.notes {
		l = append(l, n)
	}
	slices.SortFunc(l, func(a, b note) int { return cmp.Compare(b.when, a.when) })
	var all []api.Trans
	for _, n := range l {
		all = append(all, n.x)
	}
	return all
}

// outside are numbers that are not from 0 to last.
func outside(last int) []int {
	return []int{-1, -2, -128, -last, -last - 1, last + 1, last + 2, 2*last + 2, 1 << 21, 1 << 31, 1<<31 + 1, 1 << 32, 1<<32 + 1, 1 << 62, math.MaxInt, math.MinInt, math.MinInt + 1}
}

// TLBs that no call has made.
func none() []*tlb.TLB { return []*tlb.TLB{nil, {}, new(tlb.TLB)} }

// Each one of the errors of a TLB and arguments: of Find, Peek, Mark, Drop; zero results stand beside all of them.
func refuses(t *testing.T, b *tlb.TLB, asid, page int, want api.Errno) {
	t.Helper()
	if x, is, e := b.Find(asid, page); x != (api.Trans{}) || is || e != want {
		t.Errorf("Find(%d, %d) = %+v, %v, %d, want %d", asid, page, x, is, e, want)
	}
	if x, is, e := b.Peek(asid, page); x != (api.Trans{}) || is || e != want {
		t.Errorf("Peek(%d, %d) = %+v, %v, %d, want %d", asid, page, x, is, e, want)
	}
	if is, e := b.Mark(asid, page); is || e != want {
		t.Errorf("Mark(%d, %d) = %v, %d, want %d", asid, page, is, e, want)
	}
	if is, e := b.Drop(asid, page); is || e != want {
		t.Errorf("Drop(%d, %d) = %v, %d, want %d", asid, page, is, e, want)
	}
}

// The document's examples, in their order: they go through all calls.
func TestP4_7Examples(t *testing.T) {
	for _, n := range []int{0, 65} {
		if b, e := tlb.New(n); b != nil || e != api.ErrArg {
			t.Errorf("New(%d) = %v, %d", n, b, e)
		}
	}
	T := made(t, 2)
	a, b, c := api.Trans{Page: 1, Frame: 11}, api.Trans{Page: 2, Frame: 12}, api.Trans{Page: 3, Frame: 13}
	x, is, e := T.Find(0, 1)
	answers(t, "Find(0, 1)", x, is, e, a, false)
	refuses(t, T, 128, 1, api.ErrArg)
	if e := T.Fill(api.Trans{Page: 1, Frame: 4096}); e != api.ErrArg {
		t.Errorf("Fill of the frame 4096: %d", e)
	}
	fill(t, T, a, b)
	holds(t, T, b, a)
	x, is, e = T.Find(0, 1)
	answers(t, "Find(0, 1)", x, is, e, a, true)
	fill(t, T, c)
	holds(t, T, c, a)
	x, is, e = T.Peek(0, 1)
	answers(t, "Peek(0, 1)", x, is, e, a, true)
	if is, e := T.Mark(0, 1); !is || e != api.OK {
		t.Errorf("Mark(0, 1) = %v, %d", is, e)
	}
	dirty := a
	dirty.Dirty = true
	holds(t, T, c, dirty)
	if is, e := T.Mark(1, 1); is || e != api.OK {
		t.Errorf("Mark(1, 1) = %v, %d", is, e)
	}
	a.Frame = 20
	fill(t, T, a)
	holds(t, T, a, c)
	for _, there := range []bool{true, false} {
		if is, e := T.Drop(0, 3); is != there || e != api.OK {
			t.Errorf("Drop(0, 3) = %v, %d", is, e)
		}
	}
	if n, e := T.DropAll(0); n != 1 || e != api.OK {
		t.Errorf("DropAll(0) = %d, %d", n, e)
	}
	if n, e := T.Empty(); n != 0 || e != api.OK {
		t.Errorf("Empty = %d, %d", n, e)
	}
}

func TestP4_1WhichRoom(t *testing.T) {
	asked := append(outside(api.MaxTLB), 0)
	for n := -70; n <= 300; n++ {
		asked = append(asked, n)
	}
	for _, n := range asked {
		may := n >= 1 && n <= 64
		b, e := tlb.New(n)
		if may != (b != nil) || may && e != api.OK || !may && e != api.ErrArg {
			t.Errorf("New(%d) = %v, %d", n, b != nil, e)
		}
	}
}

func TestP4_1Empty(t *testing.T) {
	for n := 1; n <= api.MaxTLB; n++ {
		b := made(t, n)
		holds(t, b)
		for _, k := range []name{{0, 0}, {lastSpace, api.MaxPages - 1}, {3, 7}} {
			refuses(t, b, k.asid, k.page, api.OK)
		}
		if n, e := b.DropAll(0); n != 0 || e != api.OK {
			t.Errorf("DropAll of a new one: %d, %d", n, e)
		}
		if n, e := b.Empty(); n != 0 || e != api.OK {
			t.Errorf("Empty of a new one: %d, %d", n, e)
		}
	}
}

// There is room for as many as were asked for, and for no more.
func TestP4_1AsAsked(t *testing.T) {
	for n := 1; n <= api.MaxTLB; n++ {
		b := made(t, n)
		var want []api.Trans
		for page := range 2*n + 3 {
			fill(t, b, of(page%5, page))
			want = slices.Insert(want, 0, of(page%5, page))
			want = want[:min(len(want), n)]
			holds(t, b, want...)
		}
	}
}

// Each New is a TLB of its own.
func TestP4_1Apart(t *testing.T) {
	a, b := made(t, 2, of(0, 1)), made(t, 2)
	holds(t, b)
	fill(t, b, of(0, 2))
	b.Mark(0, 1)
	holds(t, a, of(0, 1))
	a.Empty()
	holds(t, b, of(0, 2))
}

func TestP4_2NoTLB(t *testing.T) {
	for i, b := range none() {
		for _, k := range []name{{0, 0}, {-1, 0}, {0, -1}, {128, 1 << 20}, {math.MinInt, math.MaxInt}} {
			refuses(t, b, k.asid, k.page, api.ErrNil)
			if n, e := b.DropAll(k.asid); n != 0 || e != api.ErrNil {
				t.Errorf("%d: DropAll(%d) = %d, %d", i, k.asid, n, e)
			}
			for _, frame := range []int{0, -1, 4096} {
				if e := b.Fill(api.Trans{Asid: k.asid, Page: k.page, Frame: frame}); e != api.ErrNil {
					t.Errorf("%d: Fill: %d", i, e)
				}
			}
		}
		if n, e := b.Empty(); n != 0 || e != api.ErrNil {
			t.Errorf("%d: Empty = %d, %d", i, n, e)
		}
		if l := b.All(); len(l) != 0 {
			t.Errorf("%d: All = %v", i, l)
		}
	}
}

// What is refused changes nothing.
func TestP4_2Wrong(t *testing.T) {
	row := []api.Trans{of(lastSpace, api.MaxPages-1), of(0, 1), of(1, 0), of(0, 0)}
	b := made(t, 4, of(0, 0), of(1, 0), of(0, 1), of(lastSpace, api.MaxPages-1))
	for _, asid := range outside(lastSpace) {
		for _, page := range []int{0, 1, -1, api.MaxPages - 1, api.MaxPages} {
			refuses(t, b, asid, page, api.ErrArg)
		}
		if n, e := b.DropAll(asid); n != 0 || e != api.ErrArg {
			t.Errorf("DropAll(%d) = %d, %d", asid, n, e)
		}
		if e := b.Fill(api.Trans{Asid: asid}); e != api.ErrArg {
			t.Errorf("Fill of the address space %d: %d", asid, e)
		}
	}
	for _, page := range outside(api.MaxPages - 1) {
		for _, asid := range []int{0, 1, -1, lastSpace, lastSpace + 1} {
			refuses(t, b, asid, page, api.ErrArg)
		}
		if e := b.Fill(api.Trans{Page: page}); e != api.ErrArg {
			t.Errorf("Fill of the page %d: %d", page, e)
		}
	}
	for _, frame := range outside(api.MaxFrames - 1) {
		for _, page := range []int{0, 1, 2, api.MaxPages - 1} { // of some there is a translation, of others not
			if e := b.Fill(api.Trans{Page: page, Frame: frame}); e != api.ErrArg {
				t.Errorf("Fill of the page %d with the frame %d: %d", page, frame, e)
			}
		}
	}
	holds(t, b, row...)
}

// All address spaces, the first and last pages and frames, and all of Read, Write, Dirty are taken.
func TestP4_2AllThatMayBe(t *testing.T) {
	pages := []int{0, 1, 4095, 4096, api.HeapBase - 1, api.HeapBase, api.MaxPages - 2, api.MaxPages - 1}
	frames := []int{0, 1, 2048, api.MaxFrames - 2, api.MaxFrames - 1}
	b := made(t, api.MaxTLB)
	for asid := range lastSpace + 1 {
		for i, page := range pages {
			for bits := range 8 {
				x := api.Trans{Asid: asid, Page: page, Frame: frames[(asid+i+bits)%len(frames)], Read: bits&1 != 0, Write: bits&2 != 0, Dirty: bits&4 != 0}
				fill(t, b, x)
				y, is, e := b.Find(asid, page)
				answers(t, "Find", y, is, e, x, true)
				y, is, e = b.Peek(asid, page)
				answers(t, "Peek", y, is, e, x, true)
			}
			if is, e := b.Mark(asid, page); !is || e != api.OK {
				t.Errorf("Mark(%d, %d) = %v, %d", asid, page, is, e)
			}
			if is, e := b.Drop(asid, page); !is || e != api.OK {
				t.Errorf("Drop(%d, %d) = %v, %d", asid, page, is, e)
			}
		}
		fill(t, b, of(asid, 9))
		if n, e := b.DropAll(asid); n != 1 || e != api.OK {
			t.Errorf("DropAll(%d) = %d, %d", asid, n, e)
		}
	}
	holds(t, b)
}

// Of each room, with each number of translations, from each place: what is found goes ahead, the others keep their order.
func TestP4_3FindFromEachPlace(t *testing.T) {
	for _, room := range []int{1, 2, 3, 4, 7, 16, 63, 64} {
		for full := 1; full <= room; full++ {
			for at := range full {
				b := made(t, room)
				var row []api.Trans
				for i := range full {
					fill(t, b, of(i%3, i))
					row = slices.Insert(row, 0, of(i%3, i))
				}
				want := row[at]
				x, is, e := b.Peek(want.Asid, want.Page)
				answers(t, "Peek", x, is, e, want, true)
				holds(t, b, row...)
				x, is, e = b.Find(want.Asid, want.Page)
				answers(t, "Find", x, is, e, want, true)
				holds(t, b, slices.Insert(slices.Delete(row, at, at+1), 0, want)...)
			}
		}
	}
}

// A page is another one in each address space; where there is no translation, nothing turns.
func TestP4_3NotThere(t *testing.T) {
	b := made(t, 4, of(2, 3), of(3, 2), of(0, 0))
	row := b.All()
	for asid := range 6 {
		for page := range 6 {
			want, there := of(asid, page), slices.Contains(row, of(asid, page))
			x, is, e := b.Peek(asid, page)
			answers(t, "Peek", x, is, e, want, there)
			if !there {
				x, is, e := b.Find(asid, page)
				answers(t, "Find", x, is, e, want, false)
			}
			holds(t, b, row...)
		}
	}
}

// Neither Peek nor a Find of nothing saves the oldest one; a Find does.
func TestP4_3WhoLeaves(t *testing.T) {
	for _, found := range []bool{false, true} {
		b := made(t, 3, of(0, 1), of(0, 2), of(0, 3))
		b.Peek(0, 1)
		b.Find(1, 1)
		if found {
			b.Find(0, 1)
		}
		fill(t, b, of(0, 4))
		if _, is, _ := b.Peek(0, 1); is != found {
			t.Errorf("found %v: the first one is there: %v", found, is)
		}
	}
}

// What is filled again stands in the stead of what was: once, the youngest, as it was filled, and nothing leaves.
func TestP4_4InItsStead(t *testing.T) {
	for _, room := range []int{1, 2, 3, 8, 64} {
		for full := 1; full <= room; full++ {
			for at := range full {
				b := made(t, room)
				var row []api.Trans
				for i := range full {
					x := of(7, i)
					x.Dirty = i%2 == 0
					fill(t, b, x)
					row = slices.Insert(row, 0, x)
				}
				x := row[at]
				x.Frame, x.Read, x.Write, x.Dirty = 4000, !x.Read, !x.Write, !x.Dirty
				fill(t, b, x)
				holds(t, b, slices.Insert(slices.Delete(row, at, at+1), 0, x)...)
			}
		}
	}
}

// A mark is not kept behind another fill: the bits are those of the fill alone.
func TestP4_4NothingIsMixed(t *testing.T) {
	b := made(t, 2, of(0, 1))
	b.Mark(0, 1)
	fill(t, b, of(0, 1))
	holds(t, b, of(0, 1))
	bare := api.Trans{Page: 1}
	fill(t, b, bare)
	holds(t, b, bare)
}

// One frame may be that of several pages, and of a page in several address spaces.
func TestP4_4SharedFrames(t *testing.T) {
	a, b, c := api.Trans{Asid: 1, Page: 5, Frame: 9}, api.Trans{Asid: 2, Page: 5, Frame: 9}, api.Trans{Asid: 1, Page: 6, Frame: 9}
	x := made(t, 3, a, b, c)
	holds(t, x, c, b, a)
	x.Drop(2, 5)
	holds(t, x, c, a)
}

func TestP4_5Mark(t *testing.T) {
	for _, room := range []int{1, 2, 5, 64} {
		for at := range room {
			b := made(t, room)
			var row []api.Trans
			for i := range room {
				fill(t, b, of(i%2, i))
				row = slices.Insert(row, 0, of(i%2, i))
			}
			row[at].Dirty = true
			for range 2 { // one that is dirty stays so
				if is, e := b.Mark(row[at].Asid, row[at].Page); !is || e != api.OK {
					t.Errorf("Mark = %v, %d", is, e)
				}
				holds(t, b, row...)
			}
			if is, e := b.Mark(row[at].Asid+2, row[at].Page); is || e != api.OK {
				t.Errorf("Mark of another address space's = %v, %d", is, e)
			}
			if is, e := b.Mark(row[at].Asid, row[at].Page+1000); is || e != api.OK {
				t.Errorf("Mark of another page = %v, %d", is, e)
			}
			holds(t, b, row...)
			x, is, e := b.Find(row[at].Asid, row[at].Page)
			answers(t, "Find", x, is, e, row[at], true)
		}
	}
}

func TestP4_6Drop(t *testing.T) {
	for _, room := range []int{1, 2, 5, 64} {
		for full := 1; full <= room; full++ {
			for at := range full {
				b := made(t, room)
				var row []api.Trans
				for i := range full {
					fill(t, b, of(i%2, i))
					row = slices.Insert(row, 0, of(i%2, i))
				}
				x := row[at]
				if is, e := b.Drop(1-x.Asid, x.Page); is || e != api.OK {
					t.Errorf("Drop of another address space's = %v, %d", is, e)
				}
				holds(t, b, row...)
				row = slices.Delete(row, at, at+1)
				for _, there := range []bool{true, false} {
					if is, e := b.Drop(x.Asid, x.Page); is != there || e != api.OK {
						t.Errorf("Drop = %v, %d, want %v", is, e, there)
					}
					holds(t, b, row...)
				}
				y, is, e := b.Find(x.Asid, x.Page)
				answers(t, "Find behind Drop", y, is, e, x, false)
				fill(t, b, of(9, 9)) // there is room for one: nobody leaves
				holds(t, b, slices.Insert(row, 0, of(9, 9))...)
			}
		}
	}
}

func TestP4_6DropAll(t *testing.T) {
	for spaces := 1; spaces <= 4; spaces++ {
		for gone := range spaces + 1 {
			b := made(t, 12)
			var row []api.Trans
			for i := range 12 {
				x := of(i*5%spaces, i)
				fill(t, b, x)
				row = slices.Insert(row, 0, x)
			}
			left := slices.DeleteFunc(slices.Clone(row), func(x api.Trans) bool { return x.Asid == gone })
			for _, want := range []int{len(row) - len(left), 0} {
				if n, e := b.DropAll(gone); n != want || e != api.OK {
					t.Errorf("%d spaces: DropAll(%d) = %d, %d, want %d", spaces, gone, n, e, want)
				}
				holds(t, b, left...)
			}
		}
	}
}

func TestP4_6Empty(t *testing.T) {
	for _, room := range []int{1, 2, 5, 64} {
		for full := range room + 1 {
			b := made(t, room)
			for i := range full {
				fill(t, b, of(i%3, i))
			}
			for _, want := range []int{full, 0} {
				if n, e := b.Empty(); n != want || e != api.OK {
					t.Errorf("Empty = %d, %d, want %d", n, e, want)
				}
				holds(t, b)
			}
			for i := range full {
				x, is, e := b.Find(i%3, i)
				answers(t, "Find behind Empty", x, is, e, x, false)
			}
		}
	}
}

// Behind Empty, or DropAll of all, a TLB is as a new one with as much room.
func TestP4_6AsNew(t *testing.T) {
	for _, room := range []int{1, 2, 5, 64} {
		old, dropped, fresh := made(t, room), made(t, room), made(t, room)
		for i := range 3 * room {
			fill(t, old, of(i%2, i))
			fill(t, dropped, of(0, i))
		}
		old.Empty()
		if n, e := dropped.DropAll(0); n != room || e != api.OK {
			t.Errorf("DropAll = %d, %d, want %d", n, e, room)
		}
		d := dice(room)
		for range 200 {
			x := of(d.below(2), d.below(2*room))
			for _, b := range []*tlb.TLB{old, dropped, fresh} {
				fill(t, b, x)
			}
			holds(t, old, fresh.All()...)
			holds(t, dropped, fresh.All()...)
		}
	}
}

// What is told is nobody else's: neither the TLB's nor another answer's, and it stays as it was told.
func TestP4_7AllIsNew(t *testing.T) {
	b := made(t, 4, of(0, 1), of(0, 2), of(0, 3))
	want := []api.Trans{of(0, 3), of(0, 2), of(0, 1)}
	x, y := b.All(), b.All()
	x[0], x[1], x[2] = of(5, 5), of(6, 6), of(7, 7)
	_ = append(x[:1], of(8, 8), of(8, 9))
	_ = append(x, of(8, 8))
	_ = append(y, of(9, 9))
	if !slices.Equal(y, want) {
		t.Errorf("two answers share: %+v", y)
	}
	holds(t, b, want...)
	b.Mark(0, 2)
	b.Find(0, 1)
	b.Drop(0, 3)
	fill(t, b, of(1, 1), of(1, 2), of(1, 3))
	if !slices.Equal(y, want) {
		t.Errorf("an answer changed later: %+v", y)
	}
	b.DropAll(1)
	b.Empty()
	if !slices.Equal(y, want) {
		t.Errorf("an answer changed later: %+v", y)
	}
}

// A translation stays while fewer others than there is room for were filled or found, how often ever, and goes with as many.
func TestP4_8Stays(t *testing.T) {
	for room := 1; room <= api.MaxTLB; room++ {
		b, d := made(t, room), dice(room)
		for i := range room { // full of older ones
			fill(t, b, of(3, i))
		}
		mine := of(2, 77)
		fill(t, b, mine)
		for others := 1; others < room; others++ {
			for range 10 {
				fill(t, b, of(4, d.below(others)))
				b.Find(4, d.below(others))
			}
			fill(t, b, of(4, others-1))
			x, is, e := b.Peek(2, 77)
			answers(t, "Peek", x, is, e, mine, true)
		}
		for i := range room {
			if _, is, _ := b.Find(4, i); !is {
				fill(t, b, of(4, i))
			}
		}
		x, is, e := b.Peek(2, 77)
		answers(t, "Peek behind as many as there is room for", x, is, e, mine, false)
	}
}

// Whatever is done with one address space: another one's translations that are there say what they said.
func TestP4_8SpacesApart(t *testing.T) {
	d := dice(8)
	for range 20 {
		b := made(t, 8)
		for i := range 4 {
			fill(t, b, of(1, i))
		}
		for range 300 {
			page := d.below(12)
			switch d.below(6) {
			case 0:
				fill(t, b, api.Trans{Asid: 2, Page: page, Frame: d.below(api.MaxFrames), Read: d.bit(), Write: d.bit(), Dirty: d.bit()})
			case 1:
				b.Find(2, page)
			case 2:
				b.Mark(2, page)
			case 3:
				b.Drop(2, page)
			case 4:
				b.Peek(2, page)
			default:
				if d.below(20) == 0 {
					b.DropAll(2)
				}
			}
			for i := range 4 {
				if x, is, _ := b.Peek(1, i); is && x != of(1, i) {
					t.Fatalf("the page %d of 1 says %+v", i, x)
				}
			}
		}
	}
}

// Runs of mixed calls, held against a diary of the times.
func TestP4_8Runs(t *testing.T) {
	for _, room := range []int{1, 2, 3, 4, 8, 16, 63, 64} {
		d := dice(room)
		b, want := made(t, room), newDiary(room)
		for range 3000 {
			asid, page := d.below(3), d.below(room)
			one := func(x api.Trans) bool { return x.Asid == asid && x.Page == page }
			there, is := want.get(asid, page)
			switch k := d.below(200); {
			case k < 70:
				x := api.Trans{Asid: asid, Page: page, Frame: d.below(api.MaxFrames), Read: d.bit(), Write: d.bit(), Dirty: d.bit()}
				fill(t, b, x)
				want.put(x)
			case k < 120:
				x, got, e := b.Find(asid, page)
				answers(t, "Find", x, got, e, there, is)
				if is {
					want.put(there)
				}
			case k < 150:
				x, got, e := b.Peek(asid, page)
				answers(t, "Peek", x, got, e, there, is)
			case k < 175:
				if got, e := b.Mark(asid, page); got != want.mark(asid, page) || e != api.OK {
					t.Fatalf("Mark(%d, %d) = %v, %d", asid, page, got, e)
				}
			case k < 195:
				if got, e := b.Drop(asid, page); got != (want.drop(one) == 1) || e != api.OK {
					t.Fatalf("Drop(%d, %d) = %v, %d", asid, page, got, e)
				}
			case k < 199:
				space := func(x api.Trans) bool { return x.Asid == asid }
				if n, e := b.DropAll(asid); n != want.drop(space) || e != api.OK {
					t.Fatalf("DropAll(%d) = %d, %d", asid, n, e)
				}
			default:
				every := func(api.Trans) bool { return true }
				if n, e := b.Empty(); n != want.drop(every) || e != api.OK {
					t.Fatalf("Empty = %d, %d", n, e)
				}
			}
			if l := b.All(); !slices.Equal(l, want.all()) || len(l) > room {
				t.Fatalf("room %d: %+v, want %+v", room, l, want.all())
			}
		}
	}
}
