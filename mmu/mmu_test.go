package mmu_test

import (
	"math"
	"reflect"
	"slices"
	"testing"

	"cofferdam/api"
	"cofferdam/core"
	"cofferdam/mmu"
	"cofferdam/plan"
	"cofferdam/pool"
	"cofferdam/table"
)

// usual is the configuration of the document's examples.
func usual() api.Config {
	return api.Config{
		Frames: 64, Colours: 4, Ways: 2, L1Sets: 4, L1Ways: 2, TLB: 4,
		Costs: api.Costs{L1: 1, LLC: 4, Miss: 10, Fault: 5, Step: 1, Disk: 20},
		Slice: 4000, Pad: 20, Turns: []int{0, 1},
		Parts: []api.Part{
			{Colours: []int{0, 1}, Order: 1, User: 4, Tables: 8, Spaces: 1, Regions: 1, Records: 1, Slots: 3},
			{Colours: []int{2}, User: 2, Tables: 6, Spaces: 1, Regions: 1, Records: 1, Slots: 3},
		},
	}
}

// least has tables for one page, caches of one line, and a TLB of one translation.
func least() api.Config {
	c := usual()
	c.Frames, c.Colours, c.Ways, c.L1Sets, c.L1Ways, c.TLB = 10, 1, 1, 1, 1, 1
	c.Turns = []int{0}
	c.Parts = []api.Part{{Colours: []int{0}, User: 2, Tables: 4, Spaces: 1, Regions: 1, Records: 1, Slots: 1}}
	return c
}

// odd has 13 frames of each colour, partitions whose colours do not follow one another, and prices that tell one from another.
func odd() api.Config {
	c := usual()
	c.Frames, c.Colours, c.Ways, c.L1Sets, c.L1Ways, c.TLB = 104, 8, 3, 8, 5, 7
	c.Costs = api.Costs{L1: 3, LLC: 17, Miss: 101, Fault: 2, Step: 13, Disk: 6}
	c.Slice, c.Pad = 1<<22, 1<<10
	c.Parts = []api.Part{
		{Colours: []int{3}, Order: 1, User: 2, Tables: 6, Spaces: 1, Regions: 1, Records: 1, Slots: 9},
		{Colours: []int{0, 2, 7}, Order: 3, User: 2, Tables: 26, Spaces: 1, Regions: 1, Records: 1, Slots: 5},
		{Colours: []int{1, 6}, Order: 2, User: 3, Tables: 15, Spaces: 1, Regions: 1, Records: 2, Slots: 1},
	}
	c.Turns = []int{2, 0, 1}
	return c
}

// even is the usual one, where each touch costs one cycle, so that they can be counted.
func even() api.Config {
	c := usual()
	c.Costs.LLC, c.Costs.Miss = 1, 1
	return c
}

// wide has one partition with as many tables as there can be, in the greatest machine.
func wide() api.Config {
	c := usual()
	c.Frames, c.Colours, c.Ways, c.L1Sets, c.L1Ways, c.TLB = 4096, 16, 16, 4096, 16, 64
	c.Slice, c.Pad, c.Turns = 1<<22, 1<<22, []int{0}
	c.Parts = []api.Part{{User: 2, Tables: 4090, Spaces: 1, Regions: 1, Records: 1, Slots: 1024}}
	for i := range 16 {
		c.Parts[0].Colours = append(c.Parts[0].Colours, i)
	}
	return c
}

// all is each configuration here; the greatest comes last.
func all() []api.Config { return []api.Config{usual(), least(), odd(), even(), wide()} }

// small is those with few frames.
func small() []api.Config { return all()[:4] }

// each calls a function with each partition of configurations.
func each(l []api.Config, do func(c api.Config, p int)) {
	for _, c := range l {
		for p := range c.Parts {
			do(c, p)
		}
	}
}

// rig is tables with one root, and all that they stand on. Calls that name no asid or root are those of asid and root.
type rig struct {
	*testing.T
	c          api.Config
	h          *core.Core
	p          *pool.Pool
	x          *table.Tables
	asid, root int
}

func made(t *testing.T, c api.Config, part int) *rig {
	t.Helper()
	h, e := core.New(c)
	p, f := pool.New(c, part)
	if e != api.OK || f != api.OK {
		t.Fatalf("core.New: %d, pool.New: %d", e, f)
	}
	x, e := table.New(h, p)
	if x == nil || e != api.OK {
		t.Fatalf("table.New = %v, %d", x, e)
	}
	r := &rig{T: t, c: c, h: h, p: p, x: x, asid: 16*part + 5}
	r.root = r.newRoot()
	return r
}

// example is the tables of the document's examples, over a configuration: nothing is spent, and no line is in a cache.
func example(t *testing.T, c api.Config) *rig {
	t.Helper()
	r := made(t, c, 0)
	r.fits(span(1, 4))
	r.sets(1, both(20))
	r.sets(2, reads(21))
	r.sets(3, api.Entry{Swapped: true, Read: true, At: 1})
	r.calm()
	return r
}

func (r *rig) well(e api.Errno) {
	r.Helper()
	if e != api.OK {
		r.Fatalf("refused: %d", e)
	}
}

func (r *rig) newRoot() int {
	r.Helper()
	root, e := r.x.Root()
	r.well(e)
	return root
}

func (r *rig) fits(l ...api.Span) {
	r.Helper()
	_, _, e := r.x.Fit(r.root, l)
	r.well(e)
}

func (r *rig) sets(page int, x api.Entry) {
	r.Helper()
	if e := r.x.Set(r.root, page, x); e != api.OK {
		r.Fatalf("Set(%d, %+v): %d", page, x, e)
	}
}

func (r *rig) gets(page int, want api.Entry) {
	r.Helper()
	if x, e := r.x.Get(r.root, page); x != want || e != api.OK {
		r.Fatalf("Get(%d) = %+v, %d, want %+v", page, x, e, want)
	}
}

// place is where the page's entry lies.
func (r *rig) place(page int) uint64 {
	r.Helper()
	at, is, e := r.x.Place(r.root, page)
	if !is || e != api.OK {
		r.Fatalf("Place(%d) = %d, %v, %d", page, at, is, e)
	}
	return at
}

// calm empties L1 and the TLB, and settles.
func (r *rig) calm() {
	r.Helper()
	_, e := r.h.Leave()
	r.well(e)
	_, e = r.h.Settle()
	r.well(e)
}

func (r *rig) settles(want uint64) {
	r.Helper()
	if n, e := r.h.Settle(); n != want || e != api.OK {
		r.Fatalf("Settle = %d, %d, want %d", n, e, want)
	}
}

// fills puts a translation of the rig's address space into the TLB.
func (r *rig) fills(x api.Trans) {
	r.Helper()
	x.Asid = r.asid
	r.well(r.h.Fill(x))
}

// keeps fails the test unless the TLB has just these translations, the youngest first.
func (r *rig) keeps(want ...api.Trans) {
	r.Helper()
	if l := r.h.All(); !slices.Equal(l, want) {
		r.Fatalf("the TLB has %+v, want %+v", l, want)
	}
}

// looks fails the test unless Look answers that translation, and whether the TLB had it.
func (r *rig) looks(page int, write bool, want api.Trans, byTLB bool) {
	r.Helper()
	want.Asid, want.Page = r.asid, page
	if x, got, e := mmu.Look(r.h, r.x, r.asid, r.root, page, write); x != want || got != (api.Got{TLB: byTLB}) || e != api.OK {
		r.Fatalf("Look(%d, %v) = %+v, %+v, %d, want %+v, %v", page, write, x, got, e, want, byTLB)
	}
}

// fails fails the test unless all three calls say that the access fails so, and nothing else; the page's entry stays.
func (r *rig) fails(page int, write bool, want uint8) {
	r.Helper()
	was, e := r.x.Get(r.root, page)
	r.well(e)
	if x, got, e := mmu.Look(r.h, r.x, r.asid, r.root, page, write); x != (api.Trans{}) || got != (api.Got{Why: want}) || e != api.OK {
		r.Fatalf("Look(%d, %v) = %+v, %+v, %d, want %d", page, write, x, got, e, want)
	}
	if got, e := r.do(va(page, 7), 3, write, 0xabcdef); got != (api.Got{Why: want}) || e != api.OK {
		r.Fatalf("an access to %d, %v: %+v, %d, want %d", page, write, got, e, want)
	}
	r.gets(page, was)
	if _, is, _ := r.h.Peek(r.asid, page); is {
		r.Fatalf("there is a translation of the page %d", page)
	}
}

// do is a load or a store.
func (r *rig) do(at uint64, size int, write bool, v uint64) (api.Got, api.Errno) {
	if write {
		return mmu.Store(r.h, r.x, r.asid, r.root, at, size, v)
	}
	return mmu.Load(r.h, r.x, r.asid, r.root, at, size)
}

func (r *rig) loads(at uint64, size int, want api.Got) {
	r.Helper()
	if got, e := mmu.Load(r.h, r.x, r.asid, r.root, at, size); got != want || e != api.OK {
		r.Fatalf("Load(%d, %d) = %+v, %d, want %+v", at, size, got, e, want)
	}
}

func (r *rig) stores(at uint64, size int, v uint64, want api.Got) {
	r.Helper()
	if got, e := mmu.Store(r.h, r.x, r.asid, r.root, at, size, v); got != want || e != api.OK {
		r.Fatalf("Store(%d, %d, %x) = %+v, %d, want %+v", at, size, v, got, e, want)
	}
}

// has fails the test unless a frame's bytes from an offset on are these.
func (r *rig) has(frame, off int, want ...byte) {
	r.Helper()
	b, e := r.h.Page(frame)
	r.well(e)
	if !slices.Equal(b[off:off+len(want)], want) {
		r.Fatalf("the frame %d has %v at %d, want %v", frame, b[off:off+len(want)], off, want)
	}
}

// state is all that can be seen of a core and tables without a change.
type state struct {
	owned []api.Owned
	bytes [][]byte
	lines []api.Line
	trans []api.Trans
	used  []int
}

func (r *rig) state() state {
	r.Helper()
	s := state{owned: r.p.Owned(), lines: r.h.Lines(), trans: r.h.All(), used: r.h.Used()}
	for f := range r.h.Frames() {
		b, e := r.h.Page(f)
		r.well(e)
		s.bytes = append(s.bytes, b)
	}
	return s
}

// unchanged fails the test if a function changes what can be seen, or touches anything.
func (r *rig) unchanged(do func()) {
	r.Helper()
	_, e := r.h.Settle()
	r.well(e)
	was := r.state()
	do()
	r.settles(0)
	if is := r.state(); !reflect.DeepEqual(was, is) {
		r.Fatalf("the translations were %+v, now they are %+v; bytes, lines or frames may have changed", was.trans, is.trans)
	}
}

// path is the places of the entries that lead to a page, from the root down, as far as they go: four, if it has a leaf. They are read from memory, which touches nothing.
func (r *rig) path(root, page int) []uint64 {
	r.Helper()
	var l []uint64
	frame := uint64(root)
	for level := 3; level >= 0; level-- {
		at := frame*256 + uint64(page>>(5*level)%32*8)
		l = append(l, at)
		w, e := r.h.Load(at, 8)
		r.well(e)
		if w&1 == 0 {
			break
		}
		frame = w >> 8
	}
	return l
}

// asTouching fails the test unless a rig's touches were those that its twin does now: both have spent as much, have the same lines in the last-level cache, and meet the same in whatever is touched then.
func (r *rig) asTouching(twin *rig, l ...uint64) {
	r.Helper()
	_, e := twin.h.Touch(l...)
	r.well(e)
	n, e := twin.h.Settle()
	r.well(e)
	r.settles(n)
	if !slices.Equal(r.h.Lines(), twin.h.Lines()) {
		r.Fatalf("Lines = %v, want %v", r.h.Lines(), twin.h.Lines())
	}
	for _, at := range append(slices.Clone(l), l...) {
		a, _ := r.h.Touch(at)
		b, _ := twin.h.Touch(at)
		if a != b {
			r.Fatalf("a touch of %d behind %v meets %+v, want %+v", at, l, a, b)
		}
	}
	r.h.Settle()
	twin.h.Settle()
}

// span is a short way to write one.
func span(page, n int) api.Span { return api.Span{Page: page, N: n} }

// va is a page's address with an offset.
func va(page, off int) uint64 { return uint64(page*256 + off) }

// reads is the entry of a page that may be read, both of one that may be written, too.
func reads(frame int) api.Entry { return api.Entry{Present: true, Read: true, At: frame} }
func both(frame int) api.Entry  { return api.Entry{Present: true, Read: true, Write: true, At: frame} }

// met is an entry that has been read, soiled is one that has been written.
func met(x api.Entry) api.Entry { x.Accessed = true; return x }
func soiled(x api.Entry) api.Entry {
	x.Accessed, x.Dirty = true, true
	return x
}

// trans is the translation that an entry leads to.
func trans(asid, page int, x api.Entry) api.Trans {
	return api.Trans{Asid: asid, Page: page, Frame: x.At, Read: x.Read, Write: x.Write, Dirty: x.Dirty}
}

// byTLB is what an access by the TLB is answered whose line is in L1.
func byTLB(v uint64) api.Got { return api.Got{Value: v, TLB: true, Hit: api.Hit{L1: true}} }

// wrongPages is numbers that are no page's; some of them are one's, if they are cut.
func wrongPages() []int {
	return []int{-1, -2, -32, -1 << 20, 1 << 20, 1<<20 + 1, 1 << 25, 1 << 31, 1 << 32, 1<<32 + 1, 1 << 40, 1 << 62, -1 << 32, math.MaxInt, math.MinInt, math.MinInt + 1}
}

// wrongSpaces is numbers that are no address space's.
func wrongSpaces() []int {
	return []int{-1, -2, -128, 128, 129, 133, 256, 1 << 31, 1 << 32, 1<<32 + 5, 1 << 62, math.MaxInt, math.MinInt, math.MinInt + 5}
}

// wrongAddrs is numbers that are no virtual address; some of them are one, if they are cut.
func wrongAddrs() []uint64 {
	return []uint64{1 << 28, 1<<28 + 256, 1 << 32, 1<<32 + 256, 1 << 48, 1 << 56, 1<<63 + 256, math.MaxUint64, math.MaxUint64 - 255}
}

// wrongSizes is numbers that are no size of an access.
func wrongSizes() []int {
	return []int{0, -1, -8, 9, 10, 16, 256, 257, 1 << 31, 1 << 32, 1<<32 + 1, 1 << 62, math.MaxInt, math.MinInt, math.MinInt + 1}
}

// dice are numbers that look like chance, the same ones in each run.
type dice uint64

func (d *dice) below(n int) int {
	*d = *d*6364136223846793005 + 1442695040888963407
	return int(uint64(*d) >> 33 % uint64(n))
}

// What all calls have.

func TestP16_1MayBe(t *testing.T) {
	for i, c := range all() {
		if !plan.May(c) {
			t.Fatalf("the configuration %d may not be: %v", i, plan.Check(c))
		}
	}
}

// refused fails the test unless all calls answer that error, and nothing beside it.
func refused(t *testing.T, h *core.Core, x *table.Tables, asid, root, page int, at uint64, size int, want api.Errno) {
	t.Helper()
	for _, write := range []bool{false, true} {
		if tr, got, e := mmu.Look(h, x, asid, root, page, write); tr != (api.Trans{}) || got != (api.Got{}) || e != want {
			t.Errorf("Look(%d, %d, %d, %v) = %+v, %+v, %d, want %d", asid, root, page, write, tr, got, e, want)
		}
	}
	if got, e := mmu.Load(h, x, asid, root, at, size); got != (api.Got{}) || e != want {
		t.Errorf("Load(%d, %d, %d, %d) = %+v, %d, want %d", asid, root, at, size, got, e, want)
	}
	if got, e := mmu.Store(h, x, asid, root, at, size, math.MaxUint64); got != (api.Got{}) || e != want {
		t.Errorf("Store(%d, %d, %d, %d) = %+v, %d, want %d", asid, root, at, size, got, e, want)
	}
}

// ErrNil comes ahead of all other errors.
func TestP16_1None(t *testing.T) {
	r := example(t, usual())
	for _, k := range []struct {
		h *core.Core
		x *table.Tables
	}{{nil, nil}, {nil, r.x}, {r.h, nil}, {&core.Core{}, r.x}, {r.h, &table.Tables{}}, {&core.Core{}, &table.Tables{}}, {nil, &table.Tables{}}, {&core.Core{}, nil}} {
		r.unchanged(func() {
			refused(t, k.h, k.x, 5, r.root, 1, 256, 1, api.ErrNil)
			refused(t, k.h, k.x, 128, r.root, 1, 256, 1, api.ErrNil)
			refused(t, k.h, k.x, 5, -1, 1, 256, 1, api.ErrNil)
			refused(t, k.h, k.x, -1, -1, -1, 1<<28, 0, api.ErrNil)
		})
	}
}

// ErrArg of an asid comes ahead of ErrAddr.
func TestP16_1NoSpace(t *testing.T) {
	r := example(t, usual())
	r.loads(256, 1, api.Got{})
	r.unchanged(func() {
		for _, asid := range wrongSpaces() {
			refused(t, r.h, r.x, asid, r.root, 1, 256, 1, api.ErrArg)
			refused(t, r.h, r.x, asid, r.root, -1, 1<<28, 1, api.ErrArg)
		}
	})
}

func TestP16_1AllSpaces(t *testing.T) {
	for asid := range 128 {
		r := example(t, usual())
		r.asid = asid
		r.looks(1, true, trans(asid, 1, both(20)), false)
		r.stores(260, 2, 0x1234, api.Got{TLB: true, Hit: api.Hit{}})
		r.loads(260, 2, byTLB(0x1234))
	}
}

// A frame is no root because it is a table's, or because it was one; and the error comes ahead of ErrAddr. A translation does not help.
func TestP16_1NoRoot(t *testing.T) {
	r := example(t, usual())
	r.loads(256, 1, api.Got{})
	gone := r.newRoot()
	if _, e := r.x.Drop(gone); e != api.OK {
		t.Fatalf("Drop: %d", e)
	}
	wrong := []int{-1, -2, -64, 64, 4096, 1 << 32, 1<<32 + r.root, 1<<56 + r.root, r.root + 4096, -r.root - 1, math.MaxInt, math.MinInt}
	for f := range r.c.Frames {
		if f != r.root {
			wrong = append(wrong, f)
		}
	}
	r.unchanged(func() {
		for _, w := range wrong {
			refused(t, r.h, r.x, r.asid, w, 1, 256, 1, api.ErrArg)
			refused(t, r.h, r.x, r.asid, w, -1, 1<<28, 1, api.ErrArg)
		}
	})
}

// The roots of other tables are none of these.
func TestP16_1OthersRoots(t *testing.T) {
	r := example(t, usual())
	other, e := table.New(r.h, r.p)
	r.well(e)
	theirs, e := other.Root()
	r.well(e)
	r.unchanged(func() {
		refused(t, r.h, r.x, r.asid, theirs, 1, 256, 1, api.ErrArg)
		refused(t, r.h, other, r.asid, r.root, 1, 256, 1, api.ErrArg)
	})
}

// P16.1

func TestP16_1NoPage(t *testing.T) {
	r := example(t, usual())
	r.loads(256, 1, api.Got{})
	r.unchanged(func() {
		for _, page := range wrongPages() {
			for _, write := range []bool{false, true} {
				if x, got, e := mmu.Look(r.h, r.x, r.asid, r.root, page, write); x != (api.Trans{}) || got != (api.Got{}) || e != api.ErrArg {
					t.Errorf("Look(%d, %v) = %+v, %+v, %d", page, write, x, got, e)
				}
			}
		}
	})
}

// The first and the last page are pages as the others.
func TestP16_1Ends(t *testing.T) {
	r := made(t, usual(), 0)
	r.fails(0, false, api.FaultAbsent)
	r.fails(1<<20-1, true, api.FaultAbsent)
	r.fits(span(0, 1), span(1<<20-1, 1))
	r.sets(0, both(20))
	r.sets(1<<20-1, reads(21))
	r.looks(0, true, trans(0, 0, both(20)), false)
	r.looks(1<<20-1, false, trans(0, 0, reads(21)), false)
	r.looks(0, false, trans(0, 0, both(20)), true)
	r.looks(1<<20-1, false, trans(0, 0, reads(21)), true)
}

// Without a translation the page is walked to: its entry is Accessed, not Dirty, and the TLB has what it says.
func TestP16_1ByTheTables(t *testing.T) {
	for _, x := range []api.Entry{both(20), reads(21), met(both(22)), soiled(both(23)), soiled(reads(24)), {Present: true, Read: true, Write: true, Dirty: true, At: 25}} {
		for _, write := range []bool{false, true} {
			if write && !x.Write {
				continue
			}
			r, twin := example(t, usual()), example(t, usual())
			r.sets(4, x)
			r.looks(4, write, trans(0, 0, x), false)
			r.gets(4, met(x))
			r.keeps(trans(r.asid, 4, x))
			r.asTouching(twin, twin.path(twin.root, 4)...)
			r.gets(1, both(20))
			r.gets(2, reads(21))
		}
	}
}

// With a translation nothing is touched or read, whatever the tables say by now.
func TestP16_1ByTheTLB(t *testing.T) {
	for _, y := range []api.Entry{both(20), both(30), reads(20), {}, {Swapped: true, At: 2}, {Present: true, At: 20}} {
		for _, write := range []bool{false, true} {
			r := example(t, usual())
			r.looks(1, false, trans(0, 0, both(20)), false)
			r.sets(1, y)
			r.unchanged(func() { r.looks(1, write, trans(0, 0, both(20)), true) })
			r.gets(1, y)
		}
	}
}

// A translation is used even where the page has no leaf any more.
func TestP16_1WithoutALeaf(t *testing.T) {
	r := example(t, usual())
	r.looks(1, true, trans(0, 0, both(20)), false)
	r.fits()
	r.unchanged(func() { r.looks(1, true, trans(0, 0, both(20)), true) })
	_, e := r.h.Drop(r.asid, 1)
	r.well(e)
	r.fails(1, true, api.FaultAbsent)
}

// What is found is the youngest then; a translation that is there says all that it has, Dirty too.
func TestP16_1TheYoungest(t *testing.T) {
	r := example(t, usual())
	l := []api.Trans{{Page: 7, Frame: 30, Read: true}, {Page: 8, Frame: 31, Read: true, Write: true, Dirty: true}, {Page: 9, Frame: 32, Write: true}}
	for i := range l {
		l[i].Asid = r.asid
		r.fills(l[i])
	}
	r.keeps(l[2], l[1], l[0])
	r.looks(7, false, l[0], true)
	r.keeps(l[0], l[2], l[1])
	r.looks(8, true, l[1], true)
	r.keeps(l[1], l[0], l[2])
	r.looks(9, true, l[2], true)
	r.keeps(l[2], l[1], l[0])
	r.settles(0)
}

// Where the TLB is full, the oldest one leaves; but if one is dropped first, nobody else has to.
func TestP16_1Full(t *testing.T) {
	r := example(t, usual())
	var l []api.Trans
	for page := 10; page < 13; page++ {
		l = append(l, api.Trans{Asid: r.asid, Page: page, Frame: page, Read: true})
	}
	weak := api.Trans{Asid: r.asid, Page: 1, Frame: 20, Read: true}
	for _, x := range []api.Trans{l[0], weak, l[1], l[2]} {
		r.fills(x)
	}
	r.looks(1, true, trans(0, 0, both(20)), false)
	strong := trans(r.asid, 1, both(20))
	r.keeps(strong, l[2], l[1], l[0])
	r.looks(2, false, trans(0, 0, reads(21)), false)
	second := trans(r.asid, 2, reads(21))
	r.keeps(second, strong, l[2], l[1])
	r.fails(4, false, api.FaultAbsent)
	r.keeps(second, strong, l[2], l[1])
	r.fails(2, true, api.FaultPerm)
	r.keeps(strong, l[2], l[1])
}

// A translation that does not allow the access is dropped, and it goes on as if there were none.
func TestP16_1Dropped(t *testing.T) {
	r, twin := example(t, usual()), example(t, usual())
	r.looks(2, false, trans(0, 0, reads(21)), false)
	twin.h.Touch(twin.path(twin.root, 2)...)
	r.sets(2, both(22))
	r.looks(2, true, trans(0, 0, both(22)), false)
	r.gets(2, met(both(22)))
	r.keeps(trans(r.asid, 2, both(22)))
	r.asTouching(twin, twin.path(twin.root, 2)...)
	r.looks(2, true, trans(0, 0, both(22)), true)
}

// Whether it allows the access is what the translation says: Write for a store, Read for a load, each by itself.
func TestP16_1ReadOrWrite(t *testing.T) {
	for _, k := range []struct{ read, write, store, is bool }{
		{true, false, false, true}, {true, false, true, false}, {false, true, true, true}, {false, true, false, false},
		{true, true, true, true}, {true, true, false, true}, {false, false, true, false}, {false, false, false, false},
	} {
		r := example(t, usual())
		r.fills(api.Trans{Page: 1, Frame: 33, Read: k.read, Write: k.write})
		want := trans(0, 0, both(20))
		if k.is {
			want = api.Trans{Frame: 33, Read: k.read, Write: k.write}
		}
		r.looks(1, k.store, want, k.is)
	}
}

// The translations of other address spaces are not theirs.
func TestP16_1OtherSpaces(t *testing.T) {
	r := example(t, usual())
	r.looks(1, true, trans(0, 0, both(20)), false)
	other := r.newRoot()
	if x, got, e := mmu.Look(r.h, r.x, 6, other, 1, false); x != (api.Trans{}) || got != (api.Got{Why: api.FaultAbsent}) || e != api.OK {
		t.Fatalf("Look = %+v, %+v, %d", x, got, e)
	}
	r.well(r.h.Fill(api.Trans{Asid: 6, Page: 2, Frame: 33, Read: true}))
	r.looks(2, false, trans(0, 0, reads(21)), false)
	r.keeps(trans(r.asid, 2, reads(21)), api.Trans{Asid: 6, Page: 2, Frame: 33, Read: true}, trans(r.asid, 1, both(20)))
	r.fails(2, true, api.FaultPerm)
	r.keeps(api.Trans{Asid: 6, Page: 2, Frame: 33, Read: true}, trans(r.asid, 1, both(20)))
}

// Why it fails: what the entry says; a fault neither makes the entry Accessed nor fills the TLB, but its walk touches.
func TestP16_1Why(t *testing.T) {
	swapped, none := api.Entry{Swapped: true, Read: true, Write: true, At: 2}, api.Entry{Present: true, At: 20}
	for _, k := range []struct {
		x           api.Entry
		load, store uint8
	}{
		{api.Entry{}, api.FaultAbsent, api.FaultAbsent}, {swapped, api.FaultSwap, api.FaultSwap}, {api.Entry{Swapped: true}, api.FaultSwap, api.FaultSwap},
		{none, api.FaultPerm, api.FaultPerm}, {soiled(none), api.FaultPerm, api.FaultPerm}, {reads(20), api.FaultNone, api.FaultPerm}, {soiled(reads(0)), api.FaultNone, api.FaultPerm},
	} {
		r, twin := example(t, usual()), example(t, usual())
		r.sets(4, k.x)
		if k.load != api.FaultNone {
			r.fails(4, false, k.load)
			l := twin.path(twin.root, 4)
			twin.h.Touch(append(l, l...)...)
		}
		r.fails(4, true, k.store)
		l := twin.path(twin.root, 4)
		r.asTouching(twin, append(l, l...)...)
		r.keeps()
	}
}

// A walk that ends above the level 0 touches as far as it goes, and fails with FaultAbsent.
func TestP16_1NoLeaf(t *testing.T) {
	for page, touches := range map[int]int{4: 4, 32: 3, 64: 3, 1023: 3, 1024: 2, 32767: 2, 32768: 1, 1<<20 - 1: 1} {
		for _, write := range []bool{false, true} {
			r, twin := example(t, even()), example(t, even())
			if _, got, e := mmu.Look(r.h, r.x, r.asid, r.root, page, write); got != (api.Got{Why: api.FaultAbsent}) || e != api.OK {
				t.Fatalf("Look(%d) = %+v, %d", page, got, e)
			}
			if l := twin.path(twin.root, page); len(l) != touches {
				t.Fatalf("the path to %d is %v", page, l)
			}
			r.settles(uint64(touches))
			r, twin = example(t, usual()), example(t, usual())
			r.fails(page, write, api.FaultAbsent)
			l := twin.path(twin.root, page)
			r.asTouching(twin, append(l, l...)...)
		}
	}
}

// P16.2

func TestP16_2Runs(t *testing.T) {
	r := example(t, usual())
	r.loads(256, 1, api.Got{})
	refusedRun := func(at uint64, size int, want api.Errno) {
		t.Helper()
		for _, write := range []bool{false, true} {
			if got, e := r.do(at, size, write, 99); got != (api.Got{}) || e != want {
				t.Errorf("%d, %d, %v: %+v, %d, want %d", at, size, write, got, e, want)
			}
		}
	}
	r.unchanged(func() {
		for _, at := range wrongAddrs() {
			refusedRun(at, 1, api.ErrAddr)
			refusedRun(at, 0, api.ErrAddr)
		}
		for _, size := range wrongSizes() {
			refusedRun(256, size, api.ErrArg)
			refusedRun(1<<28-1, size, api.ErrArg)
		}
		for size := 2; size <= 8; size++ {
			for off := 257 - size; off < 256; off++ {
				refusedRun(va(1, off), size, api.ErrArg)
				refusedRun(va(1<<20-1, off), size, api.ErrArg)
				refusedRun(va(0, off), size, api.ErrArg)
			}
		}
	})
}

// Each run that may be is stored, the lowest byte first, and no byte beside it; and is loaded.
func TestP16_2AllRuns(t *testing.T) {
	const v = 0x8877665544332211
	r := example(t, usual())
	blank := slices.Repeat([]byte{0xcc}, 256)
	for size := 1; size <= 8; size++ {
		for off := 0; off <= 256-size; off++ {
			r.well(r.h.Put(20, blank))
			if got, e := r.do(va(1, off), size, true, v); got.Value != 0 || got.Why != api.FaultNone || e != api.OK {
				t.Fatalf("Store(%d, %d) = %+v, %d", off, size, got, e)
			}
			want := slices.Clone(blank)
			for i := range size {
				want[off+i] = byte(0x11 * (i + 1))
			}
			r.has(20, 0, want...)
			cut := uint64(v)
			if size < 8 {
				cut &= 1<<(8*size) - 1
			}
			r.loads(va(1, off), size, byTLB(cut))
		}
	}
}

// Only the line of the first byte is touched, where bytes lie in two.
func TestP16_2TheFirstLine(t *testing.T) {
	for off := 0; off <= 248; off++ {
		for _, write := range []bool{false, true} {
			r, twin := example(t, usual()), example(t, usual())
			r.fills(api.Trans{Page: 1, Frame: 20, Read: true, Write: true, Dirty: true})
			if got, e := r.do(va(1, off), 8, write, 5); got != (api.Got{TLB: true}) || e != api.OK {
				t.Fatalf("%+v, %d", got, e)
			}
			if got, e := r.do(va(1, off), 8, false, 0); !got.Hit.L1 || e != api.OK {
				t.Fatalf("%+v, %d", got, e)
			}
			at := uint64(20*256 + off)
			r.asTouching(twin, at, at)
		}
	}
}

// Hit is what the touch of the page's line meets: a load is first met nowhere, then in L1, and behind an emptied L1 in the last-level cache.
func TestP16_2Hits(t *testing.T) {
	r := example(t, usual())
	r.loads(va(1, 128), 4, api.Got{})
	r.loads(va(1, 132), 4, byTLB(0))
	r.loads(va(1, 144), 4, api.Got{TLB: true})
	r.calm()
	r.loads(va(1, 128), 4, api.Got{Hit: api.Hit{LLC: true}})
	r.calm()
	r.stores(va(1, 144), 4, 1, api.Got{Hit: api.Hit{LLC: true}})
	r.stores(va(1, 148), 4, 1, byTLB(0))
}

// The touches of a load, in order: the walk's, and the page's line; and by the TLB that line alone.
func TestP16_2TouchesOfALoad(t *testing.T) {
	for _, c := range []api.Config{usual(), even()} {
		r, twin := example(t, c), example(t, c)
		r.loads(va(1, 40), 1, api.Got{})
		r.asTouching(twin, append(twin.path(twin.root, 1), 20*256+40)...)
		if got, e := r.do(va(1, 41), 1, false, 0); !got.TLB || got.Why != api.FaultNone || e != api.OK {
			t.Fatalf("%+v, %d", got, e)
		}
		r.asTouching(twin, 20*256+41)
		r.gets(1, met(both(20)))
	}
}

// Of a store: the walk's, the entry, once more, and the page's line; with a translation that is not dirty the entry and the line; with a dirty one the line alone.
func TestP16_2TouchesOfAStore(t *testing.T) {
	for _, c := range []api.Config{usual(), even()} {
		r, twin := example(t, c), example(t, c)
		r.stores(va(1, 40), 1, 7, api.Got{})
		l := append(twin.path(twin.root, 1), twin.place(1), 20*256+40)
		if len(l) != 6 {
			t.Fatalf("%d touches", len(l))
		}
		r.asTouching(twin, l...)
		r.keeps(trans(r.asid, 1, soiled(both(20))))
		r.do(va(1, 40), 1, true, 7)
		r.asTouching(twin, 20*256+40)
		r.h.DropAll(r.asid)
		r.sets(1, both(20))
		r.do(va(1, 80), 1, false, 0)
		r.asTouching(twin, append(twin.path(twin.root, 1), 20*256+80)...)
		r.keeps(trans(r.asid, 1, both(20)))
		r.do(va(1, 80), 1, true, 0)
		r.asTouching(twin, twin.place(1), 20*256+80)
		r.keeps(trans(r.asid, 1, soiled(both(20))))
		r.gets(1, soiled(both(20)))
	}
}

// An entry that is Dirty already leads to a dirty translation: a store does not touch it again.
func TestP16_2DirtyAlready(t *testing.T) {
	r, twin := example(t, usual()), example(t, usual())
	x := both(20)
	x.Dirty = true
	r.sets(1, x)
	r.stores(va(1, 0), 1, 7, api.Got{})
	r.asTouching(twin, append(twin.path(twin.root, 1), 20*256)...)
	r.gets(1, soiled(both(20)))
	r.keeps(trans(r.asid, 1, x))
}

// A load leaves the entry and the translation clean, and does not clean dirty ones.
func TestP16_2LoadsAreClean(t *testing.T) {
	r := example(t, usual())
	r.do(va(1, 0), 1, false, 0)
	r.gets(1, met(both(20)))
	r.keeps(trans(r.asid, 1, both(20)))
	r.do(va(1, 0), 1, true, 0)
	r.do(va(1, 0), 1, false, 0)
	r.gets(1, soiled(both(20)))
	r.keeps(trans(r.asid, 1, soiled(both(20))))
}

// A store by a translation that is not dirty makes the entry Dirty, and changes nothing else of it, whatever it says by now; the translation leads the store still.
func TestP16_2OlderThanTheTables(t *testing.T) {
	for _, k := range []struct{ is, want api.Entry }{
		{both(30), api.Entry{Present: true, Read: true, Write: true, Dirty: true, At: 30}},
		{reads(20), api.Entry{Present: true, Read: true, Dirty: true, At: 20}},
		{api.Entry{Present: true, At: 9}, api.Entry{Present: true, Dirty: true, At: 9}},
		{soiled(both(30)), soiled(both(30))},
		{api.Entry{}, api.Entry{}},
		{api.Entry{Swapped: true, Read: true, At: 2}, api.Entry{Swapped: true, Read: true, At: 2}},
	} {
		r, twin := example(t, usual()), example(t, usual())
		r.fills(api.Trans{Page: 1, Frame: 20, Read: true, Write: true})
		r.sets(1, k.is)
		r.stores(va(1, 3), 2, 0xbeef, api.Got{TLB: true})
		r.gets(1, k.want)
		r.has(20, 3, 0xef, 0xbe)
		r.keeps(api.Trans{Asid: r.asid, Page: 1, Frame: 20, Read: true, Write: true, Dirty: true})
		r.asTouching(twin, twin.place(1), 20*256+3)
	}
}

// Without a place under this root no entry is touched, but the translation is marked, and the bytes are stored.
func TestP16_2NoPlace(t *testing.T) {
	r, twin := example(t, usual()), example(t, usual())
	for _, page := range []int{32, 1024, 1<<20 - 1} {
		x := api.Trans{Asid: r.asid, Page: page, Frame: 20, Write: true}
		r.fills(x)
		if got, e := r.do(va(page, 0), 1, true, 9); !got.TLB || got.Why != api.FaultNone || e != api.OK {
			t.Fatalf("%+v, %d", got, e)
		}
		x.Dirty = true
		if l := r.h.All(); l[0] != x {
			t.Fatalf("the TLB has %+v", l)
		}
		r.has(20, 0, 9)
		r.asTouching(twin, 20*256)
		if n, e := r.x.Count(r.root); n != 4 || e != api.OK {
			t.Fatalf("%d tables, %d", n, e)
		}
	}
}

// The entry is the one under the root that is told, not the one by which the translation came.
func TestP16_2AnotherRoot(t *testing.T) {
	r, twin := example(t, usual()), example(t, usual())
	first := r.root
	r.looks(1, false, trans(0, 0, both(20)), false)
	r.root, twin.root = r.newRoot(), twin.newRoot()
	r.fits(span(1, 1))
	twin.fits(span(1, 1))
	r.sets(1, both(40))
	r.h.Leave()
	twin.h.Leave()
	r.fills(trans(0, 1, both(20)))
	r.h.Settle()
	twin.h.Settle()
	r.stores(va(1, 0), 1, 8, api.Got{TLB: true})
	r.gets(1, api.Entry{Present: true, Read: true, Write: true, Dirty: true, At: 40})
	r.asTouching(twin, twin.place(1), 20*256)
	r.root = first
	r.gets(1, met(both(20)))
	r.has(20, 0, 8)
	r.has(40, 0, 0)
}

// Where it fails nothing is stored, and no line of the page is touched.
func TestP16_2Fails(t *testing.T) {
	r, twin := example(t, usual()), example(t, usual())
	r.has(21, 0, make([]byte, 256)...)
	var l []uint64
	for off := 0; off < 256; off += 16 {
		r.stores(va(2, off), 8, math.MaxUint64, api.Got{Why: api.FaultPerm})
		l = append(l, twin.path(twin.root, 2)...)
	}
	r.has(21, 0, make([]byte, 256)...)
	r.keeps()
	r.gets(2, reads(21))
	r.asTouching(twin, l...)
}

// P16.3

// What was stored is loaded by all pages that lead to the frame, of whichever address space, under whichever root.
func TestP16_3WhicheverSpace(t *testing.T) {
	r := made(t, odd(), 1)
	a, b := r.root, r.newRoot()
	for _, root := range []int{a, b} {
		r.root = root
		r.fits(span(1, 2), span(40, 1), span(5000, 1))
		for _, page := range []int{1, 2, 40, 5000} {
			r.sets(page, both(9))
		}
	}
	d := dice(1)
	var bytes [256]byte
	for range 600 {
		at, size := d.below(249), 1+d.below(8)
		r.asid, r.root = []int{0, 21, 127}[d.below(3)], []int{a, b}[d.below(2)]
		page := []int{1, 2, 40, 5000}[d.below(4)]
		if d.below(3) == 0 {
			v := uint64(d.below(1<<31)) * 0x100000001
			for i := range size {
				bytes[at+i] = byte(v >> (8 * i))
			}
			r.do(va(page, at), size, true, v)
			continue
		}
		want := uint64(0)
		for i := range size {
			want |= uint64(bytes[at+i]) << (8 * i)
		}
		if got, e := r.do(va(page, at), size, false, 0); got.Value != want || got.Why != api.FaultNone || e != api.OK {
			t.Fatalf("Load(%d, %d) = %+v, %d, want %x", at, size, got, e, want)
		}
	}
	r.has(9, 0, bytes[:]...)
}

// plain is what the hardware does by the document's words: translations are a row, entries are what was set, bytes are an array. Its core is asked for touches alone.
type plain struct {
	r       *rig
	h       *core.Core
	row     []api.Trans
	entries map[key]api.Entry
	bytes   []byte
}

type key struct{ root, page int }

// find is a translation's place in the row.
func (m *plain) find(asid, page int) int {
	return slices.IndexFunc(m.row, func(x api.Trans) bool { return x.Asid == asid && x.Page == page })
}

func (m *plain) drop(asid, page int) {
	if i := m.find(asid, page); i >= 0 {
		m.row = slices.Delete(m.row, i, i+1)
	}
}

func (m *plain) fill(x api.Trans) {
	m.drop(x.Asid, x.Page)
	m.row = append([]api.Trans{x}, m.row...)
	m.row = m.row[:min(len(m.row), m.r.c.TLB)]
}

func (m *plain) look(asid, root, page int, write bool) (api.Trans, api.Got) {
	if i := m.find(asid, page); i >= 0 {
		x := m.row[i]
		if write && x.Write || !write && x.Read {
			m.fill(x)
			return x, api.Got{TLB: true}
		}
		m.drop(asid, page)
	}
	l := m.r.path(root, page)
	m.h.Touch(l...)
	x, is := m.entries[key{root, page}]
	switch {
	case !is, x == api.Entry{}:
		return api.Trans{}, api.Got{Why: api.FaultAbsent}
	case x.Swapped:
		return api.Trans{}, api.Got{Why: api.FaultSwap}
	case write && !x.Write || !write && !x.Read:
		return api.Trans{}, api.Got{Why: api.FaultPerm}
	}
	x.Accessed = true
	m.entries[key{root, page}] = x
	y := trans(asid, page, x)
	m.fill(y)
	return y, api.Got{}
}

func (m *plain) do(asid, root int, at uint64, size int, write bool, v uint64) api.Got {
	page, off := int(at/256), at%256
	x, got := m.look(asid, root, page, write)
	if got.Why != api.FaultNone {
		return got
	}
	if write && !x.Dirty {
		if y, is := m.entries[key{root, page}]; is {
			y.Dirty = y.Present
			m.entries[key{root, page}] = y
			m.h.Touch(m.r.path(root, page)[3])
		}
		m.row[m.find(asid, page)].Dirty = true
	}
	pa := uint64(x.Frame)*256 + off
	got.Hit, _ = m.h.Touch(pa)
	for i := range uint64(size) {
		if write {
			m.bytes[pa+i] = byte(v >> (8 * i))
		} else {
			got.Value |= uint64(m.bytes[pa+i]) << (8 * i)
		}
	}
	return got
}

// holds fails the test unless the rig is as the plain one.
func (r *rig) holds(m *plain, frames []int) {
	r.Helper()
	r.keeps(m.row...)
	n, e := m.h.Settle()
	r.well(e)
	r.settles(n)
	if !slices.Equal(r.h.Lines(), m.h.Lines()) {
		r.Fatalf("Lines = %v, want %v", r.h.Lines(), m.h.Lines())
	}
	for k, x := range m.entries {
		if y, e := r.x.Get(k.root, k.page); x != y || e != api.OK {
			r.Fatalf("Get(%d, %d) = %+v, %d, want %+v", k.root, k.page, y, e, x)
		}
	}
	for _, f := range frames {
		r.has(f, 0, m.bytes[f*256:f*256+256]...)
	}
}

// free is frames that are no tables, and never are.
func (r *rig) free() []int {
	r.Helper()
	l := []int{}
	for range 2 {
		f, e := r.p.Take(api.UseUser)
		r.well(e)
		l = append(l, f)
	}
	for f := range r.c.Frames {
		if p, is, _ := plan.Owner(r.c, f%r.c.Colours); is && p != r.asid/16 && len(l) < 6 {
			l = append(l, f)
		}
	}
	return l
}

// some is an entry that may be, of one of the frames.
func (d *dice) some(frames []int) api.Entry {
	x := api.Entry{Present: true, At: frames[d.below(len(frames))]}
	switch d.below(8) {
	case 0:
		return api.Entry{}
	case 1:
		return api.Entry{Swapped: true, Read: d.below(2) == 0, At: d.below(1024)}
	case 2, 3:
		x.Read = d.below(3) > 0
	default:
		x.Read, x.Write = true, true
	}
	x.Accessed, x.Dirty = d.below(3) == 0, d.below(3) == 0
	return x
}

// step does one thing with the rig and with the plain one, and fails the test unless they answer the same.
func (r *rig) step(m *plain, d *dice, roots, pages, frames []int) {
	r.Helper()
	r.asid, r.root = r.asid&^15+d.below(3), roots[d.below(len(roots))]
	page, write := pages[d.below(len(pages))], d.below(2) == 0
	switch what := d.below(16); {
	case what < 3:
		x, got, e := mmu.Look(r.h, r.x, r.asid, r.root, page, write)
		if y, want := m.look(r.asid, r.root, page, write); x != y || got != want || e != api.OK {
			r.Fatalf("Look(%d, %v) = %+v, %+v, %d, want %+v, %+v", page, write, x, got, e, y, want)
		}
	case what < 12:
		size := 1 + d.below(8)
		at, v := va(page, d.below(257-size)), uint64(d.below(1<<31))*0x123456789
		got, e := r.do(at, size, write, v)
		if want := m.do(r.asid, r.root, at, size, write, v); got != want || e != api.OK {
			r.Fatalf("%d, %d, %v: %+v, %d, want %+v", at, size, write, got, e, want)
		}
	case what < 14:
		x := d.some(frames)
		if _, is := m.entries[key{r.root, page}]; is {
			r.sets(page, x)
			m.entries[key{r.root, page}] = x
		}
	case what == 14:
		x := api.Trans{Asid: r.asid, Page: page, Frame: frames[d.below(len(frames))]}
		x.Read, x.Write, x.Dirty = d.below(2) == 0, d.below(2) == 0, d.below(2) == 0
		r.fills(x)
		m.fill(x)
	case d.below(3) == 0:
		r.h.Leave()
		m.h.Leave()
		m.row = nil
	}
}

// stage is a rig with as many roots as there is room for, two at most, and how much there is under each: the leaves of the pages below 32, or below 64.
func stage(t *testing.T, c api.Config, p int) (r *rig, roots []int, pages int) {
	t.Helper()
	r, pages = made(t, c, p), 32
	roots = append(roots, r.root)
	if c.Parts[p].Tables >= 10 {
		roots, pages = append(roots, r.newRoot()), 64
	}
	for _, r.root = range roots {
		r.fits(span(0, pages))
	}
	r.calm()
	return r, roots, pages
}

func TestP16_3AsThePlainHardware(t *testing.T) {
	each(all(), func(c api.Config, p int) {
		for seed := range 10 {
			r, roots, pages := stage(t, c, p)
			twin, _, _ := stage(t, c, p)
			m := &plain{r: r, h: twin.h, entries: map[key]api.Entry{}, bytes: make([]byte, c.Frames*256)}
			for _, root := range roots {
				for page := range pages {
					m.entries[key{root, page}] = api.Entry{}
				}
			}
			d, frames := dice(seed), r.free()
			for range 400 {
				r.step(m, &d, roots, []int{0, 1, 2, 3, 31, 32, 33, 64, 1024, 1 << 19, 1<<20 - 1}, frames)
				r.holds(m, frames)
			}
		}
	})
}

// An access touches at most six lines; each touch costs one cycle here.
func TestP16_3SixLines(t *testing.T) {
	r, d := example(t, even()), dice(7)
	most := uint64(0)
	for range 2000 {
		r.sets(1+d.below(4), d.some([]int{20, 21, 22}))
		if d.below(4) == 0 {
			r.h.DropAll(r.asid)
		}
		r.h.Settle()
		r.do(va(d.below(6), d.below(249)), 8, d.below(2) == 0, 1)
		n, _ := r.h.Settle()
		most = max(most, n)
	}
	if most != 6 {
		t.Fatalf("an access touches %d lines", most)
	}
}

// An entry is Accessed behind an access, Dirty behind a store.
func TestP16_3AccessedAndDirty(t *testing.T) {
	each(small(), func(c api.Config, p int) {
		r := made(t, c, p)
		r.fits(span(0, 4))
		frames := r.free()
		for page, f := range []int{frames[0], frames[1], frames[0], frames[1]} {
			r.sets(page, both(f))
		}
		for page, write := range []bool{false, true, true, false} {
			got, e := r.do(va(page, 100), 4, write, 1)
			if got.Why != api.FaultNone || e != api.OK {
				t.Fatalf("%+v, %d", got, e)
			}
			want := met(both(frames[page%2]))
			want.Dirty = write
			r.gets(page, want)
		}
	})
}

// Whatever stands in tables, nothing panics, and all ends (R1): entries that lead out of memory, into tables, or that are none.
func TestP16_3WhateverIsInMemory(t *testing.T) {
	each(small(), func(c api.Config, p int) {
		for seed := range 20 {
			r, d := made(t, c, p), dice(seed)
			r.fits(span(1, 3))
			words := []uint64{math.MaxUint64, 1 << 63, 0xfff0f, uint64(c.Frames)<<8 | 15, uint64(r.root)<<8 | 15, r.place(1) | 15, 3, 64, 15}
			for range 200 {
				leaf, i := r.place(1)&^255, uint64(d.below(32)*8)
				if d.below(2) == 0 {
					leaf = uint64(d.below(c.Frames)) * 256
				}
				r.h.Store(leaf+i, 8, words[d.below(len(words))])
				page, write := d.below(40), d.below(2) == 0
				mmu.Look(r.h, r.x, r.asid, r.root, page, write)
				r.do(va(page, d.below(249)), 1+d.below(8), write, words[d.below(len(words))])
				if _, is, _ := r.x.Place(r.root, 1); !is {
					break
				}
			}
		}
	})
}

// A core that is not the tables' is the caller's business, but nothing panics.
func TestP16_3ForeignCore(t *testing.T) {
	r := example(t, usual())
	h, e := core.New(least())
	r.well(e)
	for _, write := range []bool{false, true} {
		for page := range 70 {
			mmu.Look(h, r.x, 5, r.root, page, write)
			mmu.Load(h, r.x, 5, r.root, va(page, 0), 1)
			mmu.Store(h, r.x, 5, r.root, va(page, 0), 1, 1)
		}
	}
}

// The document's examples.

func TestP16_2Examples(t *testing.T) {
	r := example(t, usual())
	r.stores(256+4, 2, 0x1234, api.Got{})
	r.loads(256+5, 1, byTLB(0x12))
	r.loads(256, 8, byTLB(0x123400000000))
	r.loads(512, 1, api.Got{})
	r.stores(512, 1, 1, api.Got{Why: api.FaultPerm})
	if got, e := r.do(512, 1, false, 0); got.TLB || got.Value != 0 || got.Why != api.FaultNone || e != api.OK {
		t.Fatalf("%+v, %d", got, e)
	}
	r.loads(3*256, 1, api.Got{Why: api.FaultSwap})
	r.loads(4*256, 1, api.Got{Why: api.FaultAbsent})
	r.loads(64*256, 1, api.Got{Why: api.FaultAbsent})
	for _, k := range []struct {
		at   uint64
		size int
		want api.Errno
	}{{1 << 28, 1, api.ErrAddr}, {255, 2, api.ErrArg}, {0, 9, api.ErrArg}} {
		if got, e := r.do(k.at, k.size, false, 0); got != (api.Got{}) || e != k.want {
			t.Fatalf("Load(%d, %d) = %+v, %d, want %d", k.at, k.size, got, e, k.want)
		}
	}
}

func TestP16_3ExamplesTouches(t *testing.T) {
	r := example(t, even())
	r.do(256+4, 2, true, 0x1234)
	r.settles(6)
	r.do(256+5, 1, false, 0)
	r.settles(1)
	r.do(4*256, 1, false, 0)
	r.settles(4)
	r.do(64*256, 1, true, 0)
	r.settles(3)
}
