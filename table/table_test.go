package table_test

import (
	"encoding/binary"
	"math"
	"reflect"
	"slices"
	"testing"

	"cofferdam/addr"
	"cofferdam/api"
	"cofferdam/core"
	"cofferdam/plan"
	"cofferdam/pool"
	"cofferdam/table"
)

// usual is the configuration of the document's examples.
func usual() api.Config {
	return api.Config{
		Frames: 64, Colours: 4, Ways: 2, L1Sets: 4, L1Ways: 2, TLB: 4,
		Costs: api.Costs{L1: 1, LLC: 4, Miss: 10, Fault: 5, Step: 1, Disk: 20},
		Slice: 4000, Pad: 20, Turns: []int{0, 1},
		Parts: []api.Part{
			{Colours: []int{0, 1}, Order: 1, User: 4, Tables: 8, Spaces: 1, Regions: 1, Records: 1, Slots: 3},
			{Colours: []int{2}, User: 2, Tables: 6, Spaces: 1, Regions: 1, Records: 1, Slots: 3},
		},
	}
}

// least has tables for one page, and caches of one line.
func least() api.Config {
	c := usual()
	c.Frames, c.Colours, c.Ways, c.L1Sets, c.L1Ways, c.TLB = 10, 1, 1, 1, 1, 1
	c.Turns = []int{0}
	c.Parts = []api.Part{{Colours: []int{0}, User: 2, Tables: 4, Spaces: 1, Regions: 1, Records: 1, Slots: 1}}
	return c
}

// odd has 13 frames of each colour, partitions whose colours do not follow one another, and prices that tell one from another.
func odd() api.Config {
	c := usual()
	c.Frames, c.Colours, c.Ways, c.L1Sets, c.L1Ways, c.TLB = 104, 8, 3, 8, 5, 7
	c.Costs = api.Costs{L1: 3, LLC: 17, Miss: 101, Fault: 2, Step: 13, Disk: 6}
	c.Slice, c.Pad = 1<<22, 1<<10
	c.Parts = []api.Part{
		{Colours: []int{3}, Order: 1, User: 2, Tables: 6, Spaces: 1, Regions: 1, Records: 1, Slots: 9},
		{Colours: []int{0, 2, 7}, Order: 3, User: 2, Tables: 26, Spaces: 1, Regions: 1, Records: 1, Slots: 5},
		{Colours: []int{1, 6}, Order: 2, User: 3, Tables: 15, Spaces: 1, Regions: 1, Records: 2, Slots: 1},
	}
	c.Turns = []int{2, 0, 1}
	return c
}

// even is the usual one, where each touch costs one cycle, so that they can be counted.
func even() api.Config {
	c := usual()
	c.Costs.LLC, c.Costs.Miss = 1, 1
	return c
}

// wide has one partition with as many tables as there can be, in the greatest machine.
func wide() api.Config {
	c := usual()
	c.Frames, c.Colours, c.Ways, c.L1Sets, c.L1Ways, c.TLB = 4096, 16, 16, 4096, 16, 64
	c.Slice, c.Pad, c.Turns = 1<<22, 1<<22, []int{0}
	c.Parts = []api.Part{{User: 2, Tables: 4090, Spaces: 1, Regions: 1, Records: 1, Slots: 1024}}
	for i := range 16 {
		c.Parts[0].Colours = append(c.Parts[0].Colours, i)
	}
	return c
}

// all is each configuration here; the greatest comes last.
func all() []api.Config { return []api.Config{usual(), least(), odd(), even(), wide()} }

// small is those with few frames.
func small() []api.Config { return all()[:4] }

// each calls a function with each partition of configurations.
func each(l []api.Config, do func(c api.Config, p int)) {
	for _, c := range l {
		for p := range c.Parts {
			do(c, p)
		}
	}
}

// rig is tables, with the core and the pool that they stand on.
type rig struct {
	*testing.T
	c api.Config
	h *core.Core
	p *pool.Pool
	x *table.Tables
}

func made(t *testing.T, c api.Config, part int) *rig {
	t.Helper()
	h, e := core.New(c)
	p, f := pool.New(c, part)
	if e != api.OK || f != api.OK {
		t.Fatalf("core.New: %d, pool.New: %d", e, f)
	}
	x, e := table.New(h, p)
	if x == nil || e != api.OK {
		t.Fatalf("New = %v, %d", x, e)
	}
	return &rig{T: t, c: c, h: h, p: p, x: x}
}

// example is the tables of the document's examples.
func example(t *testing.T) *rig { return made(t, usual(), 1) }

// spoil fills all bytes of memory, so that what is not made nought is seen.
func (r *rig) spoil() {
	b := make([]byte, 256)
	for i := range b {
		b[i] = byte(i + 1)
	}
	for f := range r.h.Frames() {
		r.h.Put(f, b)
	}
}

func (r *rig) well(e api.Errno) {
	r.Helper()
	if e != api.OK {
		r.Fatalf("refused: %d", e)
	}
}

func (r *rig) root() int {
	r.Helper()
	root, e := r.x.Root()
	r.well(e)
	return root
}

func (r *rig) fits(root, opened, closed int, l ...api.Span) {
	r.Helper()
	if a, b, e := r.x.Fit(root, l); a != opened || b != closed || e != api.OK {
		r.Fatalf("Fit(%v) = %d, %d, %d, want %d, %d", l, a, b, e, opened, closed)
	}
}

// refuses fails the test unless Fit answers that error, and nothing beside it.
func (r *rig) refuses(root int, want api.Errno, l ...api.Span) {
	r.Helper()
	if a, b, e := r.x.Fit(root, l); a != 0 || b != 0 || e != want {
		r.Fatalf("Fit(%v) = %d, %d, %d, want %d", l, a, b, e, want)
	}
}

func (r *rig) counts(root, want int) {
	r.Helper()
	if n, e := r.x.Count(root); n != want || e != api.OK {
		r.Fatalf("Count = %d, %d, want %d", n, e, want)
	}
}

func (r *rig) sets(root, page int, x api.Entry) {
	r.Helper()
	if e := r.x.Set(root, page, x); e != api.OK {
		r.Fatalf("Set(%d, %+v): %d", page, x, e)
	}
}

func (r *rig) gets(root, page int, want api.Entry) {
	r.Helper()
	if x, e := r.x.Get(root, page); x != want || e != api.OK {
		r.Fatalf("Get(%d) = %+v, %d, want %+v", page, x, e, want)
	}
}

func (r *rig) lists(root int, want ...api.Mapped) {
	r.Helper()
	if l, e := r.x.List(root); !slices.Equal(l, want) || e != api.OK {
		r.Fatalf("List = %+v, %d, want %+v", l, e, want)
	}
}

// places fails the test unless the page's entry lies there.
func (r *rig) places(root, page int, want uint64) {
	r.Helper()
	if at, is, e := r.x.Place(root, page); at != want || !is || e != api.OK {
		r.Fatalf("Place(%d) = %d, %v, %d, want %d", page, at, is, e, want)
	}
}

// lacks fails the test unless the page has no leaf.
func (r *rig) lacks(root, page int) {
	r.Helper()
	if at, is, e := r.x.Place(root, page); at != 0 || is || e != api.OK {
		r.Fatalf("Place(%d) = %d, %v, %d", page, at, is, e)
	}
}

func (r *rig) drops(root, want int) {
	r.Helper()
	if n, e := r.x.Drop(root); n != want || e != api.OK {
		r.Fatalf("Drop = %d, %d, want %d", n, e, want)
	}
}

func (r *rig) settles(want uint64) {
	r.Helper()
	if n, e := r.h.Settle(); n != want || e != api.OK {
		r.Fatalf("Settle = %d, %d, want %d", n, e, want)
	}
}

// tables is the frames that are taken for tables, rising.
func (r *rig) tables() []int {
	var l []int
	for _, o := range r.p.Owned() {
		if o.Use == api.UseTable {
			l = append(l, o.Frame)
		}
	}
	return l
}

// word is the entry with a number in a table, as its bytes are.
func (r *rig) word(frame, i int) uint64 {
	r.Helper()
	b, e := r.h.Page(frame)
	r.well(e)
	return binary.LittleEndian.Uint64(b[8*i:])
}

// state is all that can be seen of tables without a change: the pool, the memory, the last-level cache, and what the roots tell.
type state struct {
	owned []api.Owned
	free  []int
	bytes [][]byte
	lines []api.Line
	trans []api.Trans
	lists [][]api.Mapped
	count []int
}

func (r *rig) state(roots ...int) state {
	r.Helper()
	s := state{owned: r.p.Owned(), free: r.p.Free(), lines: r.h.Lines(), trans: r.h.All()}
	for f := range r.h.Frames() {
		b, e := r.h.Page(f)
		r.well(e)
		s.bytes = append(s.bytes, b)
	}
	for _, root := range roots {
		l, e := r.x.List(root)
		r.well(e)
		n, e := r.x.Count(root)
		r.well(e)
		s.lists, s.count = append(s.lists, l), append(s.count, n)
	}
	return s
}

// unchanged fails the test if a function changes what can be seen, or lets anything be spent.
func (r *rig) unchanged(do func(), roots ...int) {
	r.Helper()
	_, e := r.h.Settle()
	r.well(e)
	was := r.state(roots...)
	do()
	r.settles(0)
	if is := r.state(roots...); !reflect.DeepEqual(was, is) {
		r.Fatalf("there was %+v, now there is %+v", was.owned, is.owned)
	}
}

// span is a short way to write one.
func span(page, n int) api.Span { return api.Span{Page: page, N: n} }

// at is an entry that is present.
func at(frame int) api.Entry { return api.Entry{Present: true, At: frame} }

// link is the word of an entry that leads to a table.
func link(frame int) uint64 { return uint64(frame)<<8 | 1 }

// wrongPages is numbers that are no page's; some of them are one's, if they are cut.
func wrongPages() []int {
	return []int{-1, -2, -32, -1 << 20, 1 << 20, 1<<20 + 1, 1 << 25, 1 << 31, 1 << 32, 1<<32 + 1, 1 << 40, 1 << 62, -1 << 32, math.MaxInt, math.MinInt, math.MinInt + 1}
}

// wrongEntries is one for each thing with which something can be wrong.
func wrongEntries() []api.Entry {
	return []api.Entry{
		{At: 1}, {At: -1}, {Read: true}, {Write: true}, {Accessed: true}, {Dirty: true},
		{Present: true, Swapped: true}, {Present: true, At: 4096}, {Present: true, At: -1}, {Present: true, Write: true},
		{Swapped: true, At: 1024}, {Swapped: true, At: -1}, {Swapped: true, Write: true}, {Swapped: true, Accessed: true}, {Swapped: true, Dirty: true},
		{Present: true, At: math.MaxInt}, {Present: true, At: math.MinInt}, {Present: true, At: 1 << 56}, {Swapped: true, At: 1 << 32},
	}
}

// goodEntries is some that may be, with all that an entry can say.
func goodEntries() []api.Entry {
	return []api.Entry{
		{}, {Present: true}, {Present: true, At: 4095}, {Present: true, Read: true, At: 9}, {Present: true, Read: true, Write: true, At: 256},
		{Present: true, Accessed: true, At: 1}, {Present: true, Dirty: true, At: 2}, {Present: true, Read: true, Write: true, Accessed: true, Dirty: true, At: 2748},
		{Swapped: true}, {Swapped: true, At: 1023}, {Swapped: true, Read: true, At: 5}, {Swapped: true, Read: true, Write: true, At: 513},
	}
}

// dice are numbers that look like chance, the same ones in each run.
type dice uint64

func (d *dice) below(n int) int {
	*d = *d*6364136223846793005 + 1442695040888963407
	return int(uint64(*d) >> 33 % uint64(n))
}

// P15.1

func TestP15_1MayBe(t *testing.T) {
	for i, c := range all() {
		if !plan.May(c) {
			t.Fatalf("the configuration %d may not be: %v", i, plan.Check(c))
		}
	}
}

func TestP15_1None(t *testing.T) {
	h, _ := core.New(usual())
	p, _ := pool.New(usual(), 0)
	for _, k := range []struct {
		h *core.Core
		p *pool.Pool
	}{{nil, nil}, {h, nil}, {nil, p}, {&core.Core{}, p}, {h, &pool.Pool{}}, {&core.Core{}, &pool.Pool{}}, {&core.Core{}, nil}, {nil, &pool.Pool{}}} {
		if x, e := table.New(k.h, k.p); x != nil || e != api.ErrNil {
			t.Errorf("New(%v, %v) = %v, %d", k.h, k.p, x, e)
		}
	}
}

// New takes no frame, touches nothing, and has no root, whichever frame one asks for.
func TestP15_1WithoutARoot(t *testing.T) {
	each(all(), func(c api.Config, p int) {
		r := made(t, c, p)
		r.unchanged(func() {
			x, e := table.New(r.h, r.p)
			r.well(e)
			for root := range c.Frames {
				if _, e := x.Count(root); e != api.ErrArg {
					t.Fatalf("Count(%d): %d", root, e)
				}
			}
		})
		if !r.p.Whole() {
			t.Fatal("a frame is taken")
		}
	})
}

// asks calls all methods that have a root, and fails the test unless each answers that error, and nothing beside it.
func asks(t *testing.T, x *table.Tables, root, page int, want api.Errno) {
	t.Helper()
	opened, closed, a := x.Fit(root, []api.Span{span(1, 1)})
	n, b := x.Drop(root)
	l, d := x.List(root)
	m, f := x.Count(root)
	if a != want || b != want || d != want || f != want || opened != 0 || closed != 0 || n != 0 || l != nil || m != 0 {
		t.Errorf("root %d: Fit %d %d %d, Drop %d %d, List %v %d, Count %d %d", root, opened, closed, a, n, b, l, d, m, f)
	}
	asksPage(t, x, root, page, want)
}

// asksPage does so for the methods that have a page, too.
func asksPage(t *testing.T, x *table.Tables, root, page int, want api.Errno) {
	t.Helper()
	y, a := x.Get(root, page)
	b := x.Set(root, page, at(3))
	place, is, c := x.Place(root, page)
	z, where, came, d := x.Walk(root, page)
	if a != want || b != want || c != want || d != want || y != (api.Entry{}) || z != y || place != 0 || where != 0 || is || came {
		t.Errorf("root %d, page %d: Get %v %d, Set %d, Place %d %v %d, Walk %v %d %v %d", root, page, y, a, b, place, is, c, z, where, came, d)
	}
}

func TestP15_1NoTables(t *testing.T) {
	for _, x := range []*table.Tables{nil, {}, new(table.Tables)} {
		if root, e := x.Root(); root != 0 || e != api.ErrNil {
			t.Errorf("Root = %d, %d", root, e)
		}
		for _, root := range []int{0, 1, -1, 64, math.MaxInt} {
			for _, page := range []int{0, 1, -1, math.MinInt} {
				asks(t, x, root, page, api.ErrNil)
			}
		}
		if _, _, e := x.Fit(0, make([]api.Span, 1025)); e != api.ErrNil {
			t.Errorf("Fit: %d", e)
		}
		if e := x.Set(0, 0, wrongEntries()[0]); e != api.ErrNil {
			t.Errorf("Set: %d", e)
		}
	}
}

// A frame is no root because it is taken for tables, or because it was one; and the error comes ahead of the others.
func TestP15_1NoRoot(t *testing.T) {
	r := made(t, odd(), 1)
	root, gone := r.root(), r.root()
	r.fits(root, 6, 0, span(1, 1), span(70000, 1))
	r.drops(gone, 1)
	wrong := []int{gone, -1, -2, -64, 104, 4096, 1 << 32, 1<<32 + root, 1<<56 + root, root + 4096, -root - 1, root * 256, math.MaxInt, math.MinInt}
	for f := range r.c.Frames {
		if f != root {
			wrong = append(wrong, f)
		}
	}
	r.unchanged(func() {
		for _, w := range wrong {
			asks(t, r.x, w, 1, api.ErrArg)
			asksPage(t, r.x, w, -1, api.ErrArg)
			r.refuses(w, api.ErrArg, make([]api.Span, 1025)...)
			if e := r.x.Set(w, 1, wrongEntries()[0]); e != api.ErrArg {
				t.Errorf("Set: %d", e)
			}
		}
	}, root)
}

func TestP15_1NoPage(t *testing.T) {
	r := example(t)
	root := r.root()
	r.fits(root, 3, 0, span(0, 32))
	r.unchanged(func() {
		for _, page := range wrongPages() {
			asksPage(t, r.x, root, page, api.ErrArg)
			if e := r.x.Set(root, page, wrongEntries()[0]); e != api.ErrArg {
				t.Errorf("Set: %d", e)
			}
		}
	}, root)
	r.fits(root, 3, 3, span(1<<20-1, 1))
	r.sets(root, 1<<20-1, at(7))
	r.gets(root, 1<<20-1, at(7))
	r.gets(root, 0, api.Entry{})
}

// The roots of tables are their own, even over one core and one pool.
func TestP15_1OthersRoots(t *testing.T) {
	r := example(t)
	other, e := table.New(r.h, r.p)
	r.well(e)
	root := r.root()
	r.unchanged(func() { asks(t, other, root, 1, api.ErrArg) }, root)
	theirs, e := other.Root()
	r.well(e)
	r.unchanged(func() { asks(t, r.x, theirs, 1, api.ErrArg) }, root)
	if theirs == root {
		t.Fatalf("both have the root %d", root)
	}
}

// P15.2

func TestP15_2ThePoolsFrame(t *testing.T) {
	each(all(), func(c api.Config, p int) {
		r := made(t, c, p)
		twin, _ := pool.New(c, p)
		for i := range c.Parts[p].Tables {
			want, _ := twin.Take(api.UseTable)
			if root := r.root(); root != want {
				t.Fatalf("the root %d is the frame %d, want %d", i, root, want)
			}
			r.counts(want, 1)
			if r.p.Counts()[api.UseTable] != i+1 {
				t.Fatalf("%v behind %d roots", r.p.Counts(), i+1)
			}
		}
		r.unchanged(func() {
			if root, e := r.x.Root(); root != 0 || e != api.ErrNoMem {
				t.Fatalf("Root = %d, %d", root, e)
			}
		})
	})
}

// The frame's bytes are 0, and its lines are touched, from the first one on.
func TestP15_2MadeNought(t *testing.T) {
	each(small(), func(c api.Config, p int) {
		r := made(t, c, p)
		r.spoil()
		twin, _ := core.New(c)
		for range 3 {
			root := r.root()
			if b, _ := r.h.Page(root); !slices.Equal(b, make([]byte, 256)) {
				t.Fatalf("the root's bytes are %v", b)
			}
			r.well(twin.Zero(root))
			n, _ := twin.Settle()
			r.settles(n)
			if !slices.Equal(r.h.Lines(), twin.Lines()) {
				t.Fatalf("Lines = %v, want %v", r.h.Lines(), twin.Lines())
			}
			r.lists(root)
			r.lacks(root, 0)
		}
	})
}

// A root that was dropped comes again, without what stood in it.
func TestP15_2Again(t *testing.T) {
	r := example(t)
	root := r.root()
	r.fits(root, 3, 0, span(5, 1))
	r.sets(root, 5, at(1))
	r.drops(root, 4)
	if again := r.root(); again != root {
		t.Fatalf("%d, then %d", root, again)
	}
	r.counts(root, 1)
	r.lists(root)
	r.gets(root, 5, api.Entry{})
}

// What others take of the pool for tables counts, too.
func TestP15_2OthersTake(t *testing.T) {
	r := made(t, least(), 0)
	var l []int
	for range 4 {
		f, e := r.p.Take(api.UseTable)
		r.well(e)
		l = append(l, f)
	}
	if root, e := r.x.Root(); root != 0 || e != api.ErrNoMem {
		t.Fatalf("Root = %d, %d", root, e)
	}
	r.well(r.p.Give(l[2]))
	if root := r.root(); root != l[2] {
		t.Fatalf("Root = %d, want %d", root, l[2])
	}
}

// P15.3

// The first two rows of the document's examples, and the fourth.
func TestP15_3Examples(t *testing.T) {
	r := example(t)
	root := r.root()
	r.counts(root, 1)
	r.fits(root, 3, 0, span(1, 2))
	r.counts(root, 4)
	r.gets(root, 1, api.Entry{})
	r.sets(root, 1, at(9))
	r.gets(root, 1, at(9))
	if e := r.x.Set(root, 32, at(9)); e != api.ErrAbsent {
		t.Fatalf("Set: %d", e)
	}
	r.fits(root, 1, 0, span(1, 1), span(32, 1))
	r.sets(root, 32, at(8))
	r.counts(root, 5)
	r.fits(root, 0, 1, span(32, 1))
	r.gets(root, 1, api.Entry{})
	r.unchanged(func() { r.refuses(root, api.ErrNoMem, span(32, 1), span(1024, 1), span(2048, 1)) }, root)
	r.fits(root, 0, 3)
	r.counts(root, 1)
	r.drops(root, 1)
	if x, e := r.x.Get(root, 1); x != (api.Entry{}) || e != api.ErrArg {
		t.Fatalf("Get = %v, %d", x, e)
	}
}

func TestP15_3WrongSpans(t *testing.T) {
	r := example(t)
	root := r.root()
	r.fits(root, 3, 0, span(1, 2))
	r.sets(root, 1, at(9))
	wrong := []api.Span{
		span(-1, 1), span(0, -1), span(-1, 0), span(1<<20, 1), span(1<<20+1, 0), span(0, 1<<20+1), span(1, 1<<20), span(1<<19, 1<<19+1),
		span(math.MaxInt, 1), span(1, math.MaxInt), span(math.MaxInt, math.MaxInt), span(math.MinInt, math.MinInt), span(math.MinInt, 0), span(0, math.MinInt), span(math.MinInt, math.MaxInt), span(1<<32, 1), span(1, 1<<32),
	}
	r.unchanged(func() {
		for _, s := range wrong {
			r.refuses(root, api.ErrArg, s)
			r.refuses(root, api.ErrArg, span(1, 2), s)
			r.refuses(root, api.ErrArg, span(0, 1<<20), s) // ahead of ErrNoMem
			r.refuses(root, api.ErrMany, slices.Repeat([]api.Span{s}, 1025)...)
		}
		r.refuses(root, api.ErrMany, make([]api.Span, 1025)...)
		r.refuses(root, api.ErrMany, slices.Repeat([]api.Span{span(1, 1)}, 5000)...)
	}, root)
	r.fits(root, 0, 0, slices.Repeat([]api.Span{span(1, 1)}, 1024)...)
	r.fits(root, 0, 3, make([]api.Span, 1024)...)
}

// A span without pages needs nothing, wherever it lies: neither does it hold a table, nor does one come.
func TestP15_3SpansWithoutPages(t *testing.T) {
	for _, page := range []int{0, 1, 5, 31, 32, 33, 1023, 1024, 1 << 15, 1 << 19, 1<<20 - 1, 1 << 20} {
		r := example(t)
		root := r.root()
		r.fits(root, 0, 0, span(page, 0))
		r.counts(root, 1)
		r.fits(root, 3, 0, span(min(page, 1<<20-1), 1), span(page, 0))
		r.fits(root, 0, 3, span(page, 0), span(page, 0))
		r.counts(root, 1)
	}
}

// Which tables lead where: each entry above a leaf is Present, At the table below, and has nothing else; all others are 0.
func TestP15_3Entries(t *testing.T) {
	for _, page := range []int{0, 1, 31, 32, 1023, 1024, 1057, 32767, 32768, 1<<19 + 77, 1<<20 - 1} {
		r := made(t, odd(), 1)
		r.spoil()
		root := r.root()
		r.fits(root, 3, 0, span(page, 1))
		frame := root
		for level := 3; level > 0; level-- {
			i, _ := addr.Index(page, level)
			w := r.word(frame, i)
			below := int(w >> 8)
			if w != link(below) || !slices.Contains(r.tables(), below) {
				t.Fatalf("page %d, level %d: the word %x", page, level, w)
			}
			for j := range 32 {
				if j != i && r.word(frame, j) != 0 {
					t.Fatalf("page %d, level %d: the entry %d has the word %x", page, level, j, r.word(frame, j))
				}
			}
			frame = below
		}
		if b, _ := r.h.Page(frame); !slices.Equal(b, make([]byte, 256)) {
			t.Fatalf("page %d: the leaf has %v", page, b)
		}
		i, _ := addr.Index(page, 0)
		r.places(root, page, uint64(frame*256+8*i))
		if l := r.tables(); len(l) != 4 {
			t.Fatalf("%v are taken", l)
		}
	}
}

// In which order tables come is seen by which frames they are, for a pool hands them out in one order: span by span, as the list goes, page by page, from the root down.
func TestP15_3TheOrderOfComing(t *testing.T) {
	r := made(t, odd(), 1)
	twin, _ := pool.New(r.c, 1)
	take := func() int {
		f, e := twin.Take(api.UseTable)
		r.well(e)
		return f
	}
	if root := r.root(); root != take() {
		t.Fatal("the root is another frame")
	}
	root := r.tables()[0]
	r.fits(root, 11, 0, span(70000, 1), span(30, 40), span(1023, 2))
	high := [3]int{take(), take(), take()} // the levels 2, 1, 0 of 70000
	low := [3]int{take(), take(), take()}  // of 30 and 31
	second, third := take(), take()        // the leaves of 32 to 63, of 64 to 69
	last := take()                         // the leaf of 1023
	next := [2]int{take(), take()}         // the levels 1 and 0 of 1024
	r.places(root, 70000, uint64(high[2]*256+8*(70000%32)))
	r.places(root, 31, uint64(low[2]*256+8*31))
	r.places(root, 32, uint64(second*256))
	r.places(root, 69, uint64(third*256+8*5))
	r.places(root, 1023, uint64(last*256+8*31))
	r.places(root, 1024, uint64(next[1]*256))
	if r.word(root, 2) != link(high[0]) || r.word(high[0], 70000>>10%32) != link(high[1]) {
		t.Fatal("70000's tables do not come from the root down")
	}
	if r.word(root, 0) != link(low[0]) || r.word(low[0], 0) != link(low[1]) || r.word(low[0], 1) != link(next[0]) {
		t.Fatal("the lower pages' tables do not come from the root down")
	}
}

// Only a table that comes is touched, and all its lines are; what goes, what stays and what leads to them is not.
func TestP15_3Touches(t *testing.T) {
	r := made(t, even(), 1)
	root := r.root()
	r.settles(16)
	r.fits(root, 3, 0, span(1, 1))
	r.settles(48)
	r.fits(root, 1, 0, span(1, 40))
	r.settles(16)
	r.fits(root, 0, 0, span(2, 60))
	r.settles(0)
	r.fits(root, 2, 1, span(1, 1), span(5000, 1))
	r.settles(32)
	r.fits(root, 0, 2, span(1, 1))
	r.settles(0)
	r.fits(root, 0, 3)
	r.settles(0)
}

// Tables that a page needs stay as they are, with what stands in them, whatever else comes and goes.
func TestP15_3WhatStays(t *testing.T) {
	r := made(t, odd(), 1)
	root := r.root()
	r.fits(root, 3, 0, span(33, 2))
	r.sets(root, 33, at(5))
	r.sets(root, 34, at(6))
	r.sets(root, 63, at(7)) // its leaf is there, if it is in no span either
	place, _, _ := r.x.Place(root, 33)
	r.fits(root, 4, 0, span(1<<19, 1), span(33, 1), span(64, 1))
	r.fits(root, 1, 1, span(0, 2), span(33, 1), span(1<<19, 32))
	r.fits(root, 0, 4, span(33, 1))
	r.places(root, 33, place)
	r.lists(root, api.Mapped{Page: 33, Entry: at(5)}, api.Mapped{Page: 34, Entry: at(6)}, api.Mapped{Page: 63, Entry: at(7)})
}

// A table above a leaf that goes stays, if another page needs it, even if nothing is left in it in between.
func TestP15_3NeededThoughEmptied(t *testing.T) {
	for _, k := range []struct{ from, to, n int }{{1, 40, 1}, {1, 1024, 2}, {1, 32768, 3}, {40, 1, 1}, {5, 31, 0}, {1<<20 - 1, 1<<20 - 33, 1}, {1<<20 - 1, 0, 3}} {
		r := example(t)
		root := r.root()
		r.fits(root, 3, 0, span(k.from, 1))
		var kept []int // the tables above that both need
		frame := root
		for level := 3; level > k.n; level-- {
			i, _ := addr.Index(k.from, level)
			frame = int(r.word(frame, i) >> 8)
			kept = append(kept, frame)
		}
		r.fits(root, k.n, k.n, span(k.to, 1))
		frame = root
		for level := 3; level > k.n; level-- {
			i, _ := addr.Index(k.to, level)
			frame = int(r.word(frame, i) >> 8)
			if frame != kept[3-level] {
				t.Fatalf("%d to %d: of the level %d there was %d, there is %d", k.from, k.to, level-1, kept[3-level], frame)
			}
		}
		r.counts(root, 4)
	}
}

// The tables above a leaf go with the last leaf under them, and not ahead of it.
func TestP15_3UpwardsFromLeaves(t *testing.T) {
	r := made(t, odd(), 1)
	root := r.root()
	r.fits(root, 10, 0, span(0, 1), span(32, 1), span(1024, 1), span(32768, 1), span(33000, 1))
	r.fits(root, 0, 1, span(32, 1), span(1024, 1), span(32768, 1), span(33000, 1))
	r.fits(root, 0, 2, span(1024, 1), span(32768, 1), span(33000, 1))
	r.fits(root, 0, 3, span(32768, 1), span(33000, 1))
	if r.word(root, 0) != 0 || r.word(root, 1) == 0 {
		t.Fatalf("the root leads to %x and %x", r.word(root, 0), r.word(root, 1))
	}
	r.fits(root, 0, 1, span(33000, 1))
	r.fits(root, 0, 3)
	if l := r.tables(); !slices.Equal(l, []int{root}) || r.word(root, 1) != 0 {
		t.Fatalf("%v are left", l)
	}
}

// What stood in a table that went is not there when one comes for the same pages.
func TestP15_3EntriesGoWithTheirTables(t *testing.T) {
	r := example(t)
	root := r.root()
	r.fits(root, 3, 0, span(1, 1))
	for page := range 32 {
		r.sets(root, page, at(page))
	}
	r.fits(root, 0, 3)
	r.lists(root)
	r.fits(root, 3, 0, span(2, 1))
	r.lists(root)
	for page := range 32 {
		r.gets(root, page, api.Entry{})
	}
}

// What goes makes room for what comes: the quota is never exceeded, and just enough is enough.
func TestP15_3JustEnough(t *testing.T) {
	r := made(t, least(), 0)
	root := r.root()
	r.fits(root, 3, 0, span(1, 31))
	for _, k := range []struct{ page, n int }{{1<<20 - 1, 3}, {1<<20 - 33, 1}, {1<<20 - 1500, 2}, {0, 3}} {
		r.fits(root, k.n, k.n, span(k.page, 1))
		r.unchanged(func() {
			r.refuses(root, api.ErrNoMem, span(k.page, 1), span(k.page^32, 1))
			r.refuses(root, api.ErrNoMem, span(0, 1<<20))
		}, root)
	}
	if n := r.p.Counts()[api.UseTable]; n != 4 {
		t.Fatalf("%d tables", n)
	}
}

// Behind a refusal the pool hands out what it would have handed out without it, and its frames are as whole.
func TestP15_3RefusedWithoutATrace(t *testing.T) {
	each(all(), func(c api.Config, p int) {
		r, quiet := made(t, c, p), made(t, c, p)
		for i := range 3 {
			for _, k := range []*rig{r, quiet} {
				if i > 0 {
					k.p.Take(api.UseUser)
				} else {
					k.root()
				}
			}
			r.unchanged(func() { r.refuses(r.tables()[0], api.ErrNoMem, span(0, 1<<20)) }, r.tables()[0])
		}
		for {
			a, e := r.x.Root()
			b, f := quiet.x.Root()
			if a != b || e != f {
				t.Fatalf("%d, %d, and without the refusals %d, %d", a, e, b, f)
			}
			if e != api.OK {
				break
			}
		}
		if !slices.Equal(r.p.Free(), quiet.p.Free()) {
			t.Fatalf("%v, %v", r.p.Free(), quiet.p.Free())
		}
	})
}

// Other roots' tables, and what others took for tables, take room.
func TestP15_3OthersTakeRoom(t *testing.T) {
	r := made(t, usual(), 0)
	a, b := r.root(), r.root()
	r.fits(a, 3, 0, span(1, 1))
	r.fits(b, 3, 0, span(1, 1))
	r.unchanged(func() {
		r.refuses(a, api.ErrNoMem, span(1, 32))
		r.refuses(b, api.ErrNoMem, span(1, 32))
	}, a, b)
	r.fits(b, 0, 3)
	f, e := r.p.Take(api.UseTable)
	r.well(e)
	r.unchanged(func() { r.refuses(a, api.ErrNoMem, span(1, 96)) }, a, b)
	r.fits(a, 1, 0, span(1, 32))
	r.well(r.p.Give(f))
	r.fits(a, 1, 0, span(1, 64))
}

// As many tables as there can be, in one span, and with spans that all need the same.
func TestP15_3Many(t *testing.T) {
	r := made(t, wide(), 0)
	root := r.root()
	n := 0
	for tables := 0; tables <= 4090; n += 32 {
		tables, _ = addr.Tables([]api.Span{span(7, n+32)})
	}
	n -= 32
	need, _ := addr.Tables([]api.Span{span(7, n)})
	r.refuses(root, api.ErrNoMem, span(7, n+32))
	r.fits(root, need-1, 0, span(7, n))
	r.counts(root, need)
	r.fits(root, 0, 0, slices.Repeat([]api.Span{span(7, n)}, 1024)...)
	r.drops(root, need)
	if !r.p.Whole() {
		t.Fatal("frames are left")
	}
}

// What is handed in is only read, its spare room neither.
func TestP15_3SpansAreOnlyRead(t *testing.T) {
	r := made(t, odd(), 1)
	root := r.root()
	l := []api.Span{span(70000, 1), span(1, 1), span(40, 0), span(33, 1), span(9, 9)}
	was := slices.Clone(l)
	r.fits(root, 7, 0, l[:4]...)
	if !slices.Equal(l, was) {
		t.Fatalf("%v became %v", was, l)
	}
	for i := range l {
		l[i] = span(5000, 1)
	}
	r.counts(root, 8)
}

// P15.4

func TestP15_4AllAreGivenBack(t *testing.T) {
	each(all(), func(c api.Config, p int) {
		r := made(t, c, p)
		free := r.p.Free()
		root := r.root()
		r.fits(root, 3, 0, span(31, 1))
		r.sets(root, 31, at(1))
		r.h.Settle()
		r.drops(root, 4)
		r.settles(0)
		if !r.p.Whole() || !slices.Equal(r.p.Free(), free) {
			t.Fatalf("%v are left", r.p.Owned())
		}
		asks(t, r.x, root, 31, api.ErrArg)
	})
}

// Other roots stay, with their tables.
func TestP15_4OthersStay(t *testing.T) {
	r := made(t, odd(), 1)
	a, b, c := r.root(), r.root(), r.root()
	for _, root := range []int{a, b, c} {
		r.fits(root, 4, 0, span(31, 2))
		r.sets(root, 31, at(root))
	}
	r.drops(b, 5)
	for _, root := range []int{a, c} {
		r.counts(root, 5)
		r.lists(root, api.Mapped{Page: 31, Entry: at(root)})
	}
	r.drops(a, 5)
	r.fits(c, 0, 1, span(31, 1))
	r.drops(c, 4)
	if !r.p.Whole() {
		t.Fatalf("%v are left", r.p.Owned())
	}
}

// Frames that pages' entries tell are none of the tables.
func TestP15_4PagesFramesStay(t *testing.T) {
	r := example(t)
	f, e := r.p.Take(api.UseUser)
	r.well(e)
	root := r.root()
	r.fits(root, 3, 0, span(0, 1))
	r.sets(root, 0, api.Entry{Present: true, Read: true, At: f})
	r.counts(root, 4)
	r.drops(root, 4)
	if o := r.p.Owned(); !slices.Equal(o, []api.Owned{{Frame: f, Use: api.UseUser}}) {
		t.Fatalf("Owned = %v", o)
	}
}

// P15.5

func TestP15_5ThereAndBack(t *testing.T) {
	r := example(t)
	root := r.root()
	r.fits(root, 3, 0, span(64, 32))
	for page := 64; page < 96; page++ {
		for _, x := range goodEntries() {
			r.sets(root, page, x)
			r.gets(root, page, x)
		}
		r.sets(root, page, at(page))
	}
	for page := 64; page < 96; page++ {
		r.gets(root, page, at(page))
	}
	for _, page := range []int{0, 63, 96, 1<<20 - 1} {
		r.gets(root, page, api.Entry{})
		r.lacks(root, page)
	}
}

// An entry is its word, with the lowest byte first, and nothing else changes with it.
func TestP15_5Bytes(t *testing.T) {
	r := example(t)
	root := r.root()
	r.fits(root, 3, 0, span(1, 1))
	place, _, _ := r.x.Place(root, 3)
	frame := int(place / 256)
	want := make([]byte, 256)
	r.sets(root, 3, api.Entry{Swapped: true, Read: true, Write: true, At: 1023})
	copy(want[24:], []byte{0x0e, 0xff, 0x03})
	if b, _ := r.h.Page(frame); !slices.Equal(b, want) {
		t.Fatalf("%v, want %v", b, want)
	}
	r.sets(root, 3, api.Entry{})
	if b, _ := r.h.Page(frame); !slices.Equal(b, make([]byte, 256)) {
		t.Fatalf("%v", b)
	}
	r.well(r.h.Store(place, 8, 1285))
	r.gets(root, 3, api.Entry{Present: true, Read: true, At: 5})
}

func TestP15_5Refused(t *testing.T) {
	r := example(t)
	root := r.root()
	r.fits(root, 3, 0, span(1, 1))
	r.sets(root, 1, at(9))
	r.unchanged(func() {
		for _, x := range wrongEntries() {
			for _, page := range []int{1, 31, 32, 1024, 1<<20 - 1} { // with a leaf and without one
				if e := r.x.Set(root, page, x); e != api.ErrEntry {
					t.Fatalf("Set(%d, %+v): %d", page, x, e)
				}
			}
		}
		for _, x := range goodEntries() {
			for _, page := range []int{32, 64, 1023, 1024, 32768, 1<<20 - 1} {
				if e := r.x.Set(root, page, x); e != api.ErrAbsent {
					t.Fatalf("Set(%d, %+v): %d", page, x, e)
				}
			}
		}
	}, root)
}

// Get, Set and Place touch nothing: nothing is spent, and no line comes.
func TestP15_5TouchNothing(t *testing.T) {
	r := example(t)
	root := r.root()
	r.fits(root, 3, 0, span(1, 1))
	r.unchanged(func() {
		for _, page := range []int{1, 2, 32, 5000, 1<<20 - 1} {
			r.x.Get(root, page)
			r.x.Place(root, page)
			r.x.Set(root, page, api.Entry{})
		}
	}, root)
}

// P15.6

// The third row of the document's examples: four touches, or three where the level 1 leads nowhere.
func TestP15_6Examples(t *testing.T) {
	r := made(t, even(), 1)
	root := r.root()
	r.fits(root, 4, 0, span(1, 1), span(32, 1))
	r.sets(root, 1, at(9))
	r.gets(root, 1, at(9))
	place, _, _ := r.x.Place(root, 1)
	r.h.Settle()
	if x, where, is, e := r.x.Walk(root, 1); x != at(9) || where != place || !is || e != api.OK {
		t.Fatalf("Walk(1) = %v, %d, %v, %d", x, where, is, e)
	}
	r.settles(4)
	if x, where, is, e := r.x.Walk(root, 64); x != (api.Entry{}) || where != 0 || is || e != api.OK {
		t.Fatalf("Walk(64) = %v, %d, %v, %d", x, where, is, e)
	}
	r.settles(3)
}

// A walk ends where an entry leads to no table, and comes to an empty entry as to any other one.
func TestP15_6WhereItEnds(t *testing.T) {
	r := made(t, even(), 1)
	root := r.root()
	r.fits(root, 4, 0, span(1, 1), span(32, 1))
	r.h.Settle()
	for _, k := range []struct {
		page int
		n    uint64
	}{{1, 4}, {64, 3}, {32, 4}, {63, 4}, {1023, 3}, {1024, 2}, {32767, 2}, {32768, 1}, {0, 4}, {1<<20 - 1, 1}} {
		x, where, is, e := r.x.Walk(root, k.page)
		r.settles(k.n)
		at, has, _ := r.x.Place(root, k.page)
		if x != (api.Entry{}) || where != at || is != (k.n == 4) || has != is || e != api.OK {
			t.Fatalf("Walk(%d) = %v, %d, %v, %d", k.page, x, where, is, e)
		}
	}
}

// path is the places of a page's entries from the root down, as the words in memory tell them.
func (r *rig) path(root, page int) []uint64 {
	var l []uint64
	frame := root
	for level := 3; ; level-- {
		i := page >> (5 * level) % 32
		l = append(l, uint64(frame*256+8*i))
		if level == 0 || r.word(frame, i) == 0 {
			return l
		}
		frame = int(r.word(frame, i) >> 8)
	}
}

// A walk touches what its path has, from the root down, with all that this does to the caches.
func TestP15_6Touches(t *testing.T) {
	each(small(), func(c api.Config, p int) {
		r, d := made(t, c, p), dice(7)
		twin, _ := core.New(c)
		root := r.root()
		r.fits(root, 3, 0, span(1057, 9))
		r.sets(root, 1060, at(3))
		for _, pa := range r.path(root, 1057) {
			r.well(twin.Zero(int(pa / 256)))
		}
		for range 500 {
			far, page := uint64(d.below(c.Frames*256)), d.page()
			if d.below(2) == 0 {
				page = []int{1057, 1060, 1056, 1087, 1088, 1024, 32767}[d.below(7)]
			}
			l := r.path(root, page)
			for _, pa := range append(l, far) {
				twin.Touch(pa)
			}
			_, where, is, e := r.x.Walk(root, page)
			if is != (len(l) == 4) || is && where != l[3] || !is && where != 0 || e != api.OK {
				t.Fatalf("Walk(%d) = %d, %v, %d, the path is %v", page, where, is, e, l)
			}
			r.h.Touch(far)
			n, _ := twin.Settle()
			r.settles(n)
		}
	})
}

// A walk's first touch is the root's: where L1 has one line, the leaf's is there behind it.
func TestP15_6TheOrder(t *testing.T) {
	r := made(t, least(), 0)
	root := r.root()
	r.fits(root, 3, 0, span(1, 1))
	l := r.path(root, 1)
	r.x.Walk(root, 1)
	for i, want := range []bool{true, false} {
		if hit, e := r.h.Touch(l[3-i]); hit.L1 != want || e != api.OK {
			t.Fatalf("the touch of the level %d meets %+v, %d", i, hit, e)
		}
	}
	r.x.Walk(root, 40) // it ends at the level 1
	if hit, _ := r.h.Touch(r.path(root, 40)[2]); !hit.L1 {
		t.Fatalf("the touch of the level 1 meets %+v", hit)
	}
}

// A walk changes no byte, and answers what Get and Place do.
func TestP15_6OnlyReads(t *testing.T) {
	r := example(t)
	root := r.root()
	r.fits(root, 3, 0, span(1, 1))
	for i, x := range goodEntries() {
		r.sets(root, i, x)
	}
	was := r.state(root)
	for i, x := range goodEntries() {
		at, _, _ := r.x.Place(root, i)
		if y, where, is, e := r.x.Walk(root, i); y != x || where != at || !is || e != api.OK {
			t.Fatalf("Walk(%d) = %+v, %d, %v, %d", i, y, where, is, e)
		}
	}
	if is := r.state(root); !reflect.DeepEqual(was.bytes, is.bytes) || !reflect.DeepEqual(was.lists, is.lists) || !reflect.DeepEqual(was.owned, is.owned) {
		t.Fatal("a walk has changed something")
	}
}

// P15.7

func TestP15_7Lists(t *testing.T) {
	r := made(t, odd(), 1)
	root := r.root()
	r.lists(root)
	r.fits(root, 9, 0, span(1<<20-1, 1), span(70000, 1), span(0, 1))
	r.lists(root)
	for _, page := range []int{70001, 1<<20 - 1, 0, 31, 70000} {
		r.sets(root, page, at(page%64))
	}
	r.sets(root, 5, api.Entry{Swapped: true, At: 3})
	r.sets(root, 6, api.Entry{})
	r.unchanged(func() {
		r.lists(root, api.Mapped{Page: 0, Entry: at(0)}, api.Mapped{Page: 5, Entry: api.Entry{Swapped: true, At: 3}}, api.Mapped{Page: 31, Entry: at(31)},
			api.Mapped{Page: 70000, Entry: at(70000 % 64)}, api.Mapped{Page: 70001, Entry: at(70001 % 64)}, api.Mapped{Page: 1<<20 - 1, Entry: at(63)})
		r.counts(root, 10)
	}, root)
	r.sets(root, 0, api.Entry{})
	r.sets(root, 70001, api.Entry{})
	r.fits(root, 0, 3, span(0, 1), span(70000, 1))
	r.lists(root, api.Mapped{Page: 5, Entry: api.Entry{Swapped: true, At: 3}}, api.Mapped{Page: 31, Entry: at(31)}, api.Mapped{Page: 70000, Entry: at(70000 % 64)})
	r.counts(root, 7)
}

// A list is new memory.
func TestP15_7NewMemory(t *testing.T) {
	r := example(t)
	root := r.root()
	r.fits(root, 3, 0, span(1, 1))
	r.sets(root, 1, at(1))
	r.sets(root, 2, at(2))
	a, _ := r.x.List(root)
	b, _ := r.x.List(root)
	for i := range a {
		a[i] = api.Mapped{Page: 77, Entry: at(77)}
	}
	_ = append(a[:0], api.Mapped{})
	want := []api.Mapped{{Page: 1, Entry: at(1)}, {Page: 2, Entry: at(2)}}
	if !slices.Equal(b, want) {
		t.Fatalf("%v", b)
	}
	r.lists(root, want...)
}

// P15.8

// id is a table by its level and its number there.
type id struct{ level, number int }

// tree is what stands under a root, by the document's words.
type tree struct {
	frames  map[id]int
	entries map[int]api.Entry
}

// plain is tables by the document's words, over a core and a pool of their own: which tables are there is known by numbers alone.
type plain struct {
	h     *core.Core
	p     *pool.Pool
	quota int
	roots map[int]*tree
}

func newPlain(c api.Config, part int) *plain {
	h, _ := core.New(c)
	p, _ := pool.New(c, part)
	return &plain{h: h, p: p, quota: c.Parts[part].Tables, roots: map[int]*tree{}}
}

func (m *plain) fresh() int {
	f, _ := m.p.Take(api.UseTable)
	m.h.Zero(f)
	return f
}

func (m *plain) root() (int, api.Errno) {
	if m.p.Counts()[api.UseTable] == m.quota {
		return 0, api.ErrNoMem
	}
	f := m.fresh()
	m.roots[f] = &tree{frames: map[id]int{{3, 0}: f}, entries: map[int]api.Entry{}}
	return f, api.OK
}

// needs is the tables that spans' pages need, each once, in the order in which the pages ask for them.
func needs(l []api.Span) []id {
	order := []id{{3, 0}}
	seen := map[id]bool{{3, 0}: true}
	for _, s := range l {
		for page := s.Page; page < s.Page+s.N; page++ {
			for level := 2; level >= 0; level-- {
				k := id{level, page >> (5 * (level + 1))}
				if !seen[k] {
					seen[k] = true
					order = append(order, k)
				}
			}
		}
	}
	return order
}

func (m *plain) fit(root int, l []api.Span) (opened, closed int, e api.Errno) {
	tr, need := m.roots[root], needs(l)
	for _, k := range need {
		if _, is := tr.frames[k]; !is {
			opened++
		}
	}
	for k := range tr.frames {
		if !slices.Contains(need, k) {
			closed++
		}
	}
	if opened > m.quota-m.p.Counts()[api.UseTable]+closed {
		return 0, 0, api.ErrNoMem
	}
	for k, f := range tr.frames {
		if !slices.Contains(need, k) {
			m.p.Give(f)
			delete(tr.frames, k)
		}
	}
	for page := range tr.entries {
		if !slices.Contains(need, id{0, page / 32}) {
			delete(tr.entries, page)
		}
	}
	for _, k := range need {
		if _, is := tr.frames[k]; !is {
			tr.frames[k] = m.fresh()
		}
	}
	return opened, closed, api.OK
}

func (m *plain) drop(root int) int {
	tr := m.roots[root]
	for _, f := range tr.frames {
		m.p.Give(f)
	}
	delete(m.roots, root)
	return len(tr.frames)
}

func (m *plain) walk(root, page int) (api.Entry, uint64, bool) {
	tr := m.roots[root]
	for level := 3; level >= 0; level-- {
		f, is := tr.frames[id{level, page >> (5 * (level + 1))}]
		if !is {
			return api.Entry{}, 0, false
		}
		m.h.Touch(uint64(f*256 + page>>(5*level)%32*8))
	}
	return tr.entries[page], uint64(tr.frames[id{0, page / 32}]*256 + page%32*8), true
}

func (tr *tree) list() []api.Mapped {
	var l []api.Mapped
	for page, x := range tr.entries {
		if x != (api.Entry{}) {
			l = append(l, api.Mapped{Page: page, Entry: x})
		}
	}
	slices.SortFunc(l, func(a, b api.Mapped) int { return a.Page - b.Page })
	return l
}

// word is an entry's word.
func word(x api.Entry) uint64 {
	w := uint64(x.At) << 8
	for i, is := range []bool{x.Present, x.Swapped, x.Read, x.Write, x.Accessed, x.Dirty} {
		if is {
			w |= 1 << i
		}
	}
	return w
}

// bytes is what stands in a table.
func (tr *tree) bytes(k id) []byte {
	b := make([]byte, 256)
	for i := range 32 {
		w := uint64(0)
		if k.level == 0 {
			w = word(tr.entries[k.number*32+i])
		} else if f, is := tr.frames[id{k.level - 1, k.number*32 + i}]; is {
			w = link(f)
		}
		binary.LittleEndian.PutUint64(b[8*i:], w)
	}
	return b
}

// holds fails the test unless tables are as the plain ones, down to the bytes.
func (r *rig) holds(m *plain) {
	r.Helper()
	var all []int
	for root, tr := range m.roots {
		r.counts(root, len(tr.frames))
		r.lists(root, tr.list()...)
		for k, f := range tr.frames {
			all = append(all, f)
			if b, _ := r.h.Page(f); !slices.Equal(b, tr.bytes(k)) {
				r.Fatalf("the table %+v in the frame %d is %v, want %v", k, f, b, tr.bytes(k))
			}
		}
	}
	slices.Sort(all)
	if !slices.Equal(all, r.tables()) || !slices.Equal(r.p.Owned(), m.p.Owned()) || !slices.Equal(r.p.Free(), m.p.Free()) {
		r.Fatalf("the tables are %v, want %v; %v and %v", r.tables(), all, r.p.Owned(), m.p.Owned())
	}
	n, e := m.h.Settle()
	r.well(e)
	r.settles(n)
	if !slices.Equal(r.h.Lines(), m.h.Lines()) {
		r.Fatalf("Lines = %v, want %v", r.h.Lines(), m.h.Lines())
	}
}

// page is near others, where tables are shared, or far from them.
func (d *dice) page() int {
	switch d.below(4) {
	case 0:
		return d.below(70)
	case 1:
		return []int{0, 31, 32, 1023, 1024, 1055, 1056, 32767, 32768, 1 << 19, 1<<20 - 1, 1<<20 - 32, 1<<20 - 33}[d.below(13)]
	case 2:
		return d.below(40) * 1024
	}
	return d.below(1 << 20)
}

func (d *dice) spans() []api.Span {
	var l []api.Span
	for range d.below(5) {
		page := d.page()
		l = append(l, span(page, min(d.below(3)*d.below(40), 1<<20-page)))
	}
	return l
}

func (d *dice) entry() api.Entry { l := goodEntries(); return l[d.below(len(l))] }

// step does one thing with tables and with the plain ones, and fails the test unless they answer the same.
func (r *rig) step(m *plain, d *dice, roots []int) []int {
	r.Helper()
	what := d.below(10)
	if len(roots) == 0 || what == 0 {
		root, e := r.x.Root()
		want, f := m.root()
		if root != want || e != f {
			r.Fatalf("Root = %d, %d, want %d, %d", root, e, want, f)
		}
		if e == api.OK {
			roots = append(roots, root)
		}
		return roots
	}
	i := d.below(len(roots))
	root, page := roots[i], d.page()
	switch {
	case what == 1 && d.below(3) == 0:
		r.drops(root, m.drop(root))
		return slices.Delete(roots, i, i+1)
	case what < 5:
		l := d.spans()
		opened, closed, e := m.fit(root, l)
		if a, b, f := r.x.Fit(root, l); a != opened || b != closed || f != e {
			r.Fatalf("Fit(%v) = %d, %d, %d, want %d, %d, %d", l, a, b, f, opened, closed, e)
		}
	case what < 8:
		r.someSet(m, d, root, page)
	default:
		x, at, is := m.walk(root, page)
		if y, where, came, e := r.x.Walk(root, page); x != y || at != where || is != came || e != api.OK {
			r.Fatalf("Walk(%d) = %+v, %d, %v, %d, want %+v, %d, %v", page, y, where, came, e, x, at, is)
		}
	}
	return roots
}

// someSet sets an entry of a page that has a leaf, if there is one, else of any.
func (r *rig) someSet(m *plain, d *dice, root, page int) {
	r.Helper()
	tr, x := m.roots[root], d.entry()
	for n := range 1 << 15 {
		if f, is := tr.frames[id{0, n}]; is && f%3 == d.below(3) {
			page = n*32 + d.below(32)
			break
		}
	}
	want := api.ErrAbsent
	if f, is := tr.frames[id{0, page / 32}]; is {
		want = api.OK
		tr.entries[page] = x
		r.places(root, page, uint64(f*256+page%32*8))
	} else {
		r.lacks(root, page)
	}
	if e := r.x.Set(root, page, x); e != want {
		r.Fatalf("Set(%d, %+v): %d, want %d", page, x, e, want)
	}
	r.gets(root, page, tr.entries[page])
}

func TestP15_8AsThePlainTables(t *testing.T) {
	each(small(), func(c api.Config, p int) {
		for seed := range 12 {
			r, m, d := made(t, c, p), newPlain(c, p), dice(seed)
			r.spoil()
			var roots []int
			for range 150 {
				roots = r.step(m, &d, roots)
				r.holds(m)
			}
			for _, root := range roots {
				r.drops(root, m.drop(root))
			}
			if !r.p.Whole() {
				t.Fatalf("%v are left", r.p.Owned())
			}
		}
	})
}

// In the greatest machine there is room for many roots.
func TestP15_8AsThePlainTablesWide(t *testing.T) {
	c := wide()
	r, m, d := made(t, c, 0), newPlain(c, 0), dice(99)
	var roots []int
	for range 300 {
		roots = r.step(m, &d, roots)
	}
	r.holds(m)
}

// Behind Fit Count is addr.Tables of the spans, and what was Set is told while each Fit has its page.
func TestP15_8CountIsTables(t *testing.T) {
	r, d := made(t, wide(), 0), dice(3)
	root := r.root()
	for range 300 {
		was, _ := r.x.Count(root)
		l := append(d.spans(), span(1025, 1))
		opened, closed, e := r.x.Fit(root, l)
		r.well(e)
		want, _ := addr.Tables(l)
		r.counts(root, want)
		if was+opened-closed != want {
			t.Fatalf("%d tables, %d opened, %d closed, %d tables", was, opened, closed, want)
		}
		if x, e := r.x.Get(root, 1025); was > 1 && x != at(77) || e != api.OK {
			t.Fatalf("Get = %+v, %d", x, e)
		}
		r.sets(root, 1025, at(77))
	}
}

// No two roots share a table: what is set under one of them is not told by the other, and all tables are different frames.
func TestP15_8RootsShareNothing(t *testing.T) {
	r := made(t, odd(), 1)
	a, b := r.root(), r.root()
	for _, root := range []int{a, b} {
		r.fits(root, 5, 0, span(1, 1), span(40, 1), span(64, 1))
	}
	r.sets(a, 40, at(1))
	r.gets(b, 40, api.Entry{})
	r.sets(b, 40, at(2))
	r.gets(a, 40, at(1))
	r.fits(a, 0, 5)
	r.gets(b, 40, at(2))
	r.counts(b, 6)
	if n := len(r.tables()); n != 7 {
		t.Fatalf("%d frames are taken for tables", n)
	}
}

// Whatever stands in memory, nothing panics, and all ends (R1): entries that lead round, out of memory, or that are none.
func TestP15_8WhateverIsInMemory(t *testing.T) {
	each(small(), func(c api.Config, p int) {
		for seed := range 20 {
			r, d := made(t, c, p), dice(seed)
			root := r.root()
			r.x.Fit(root, []api.Span{span(1, 1)})
			for range 20 {
				w := []uint64{link(root), link(d.below(c.Frames)), link(4095), math.MaxUint64, 3, 64, 1 << 63}[d.below(7)]
				r.h.Store(uint64(r.tables()[d.below(len(r.tables()))]*256+8*d.below(32)), 8, w)
			}
			r.x.List(root)
			r.x.Count(root)
			for range 50 {
				page := d.page()
				r.x.Get(root, page)
				r.x.Walk(root, page)
				r.x.Set(root, page, d.entry())
				r.x.Fit(root, d.spans())
			}
			r.x.Drop(root)
		}
	})
}

// A core that lacks the pool's frames is the caller's business, but nothing panics, and all ends (R1).
func TestP15_8ForeignCore(t *testing.T) {
	h, _ := core.New(least())
	p, _ := pool.New(wide(), 0)
	x, e := table.New(h, p)
	if e != api.OK {
		t.Fatalf("New: %d", e)
	}
	for range 20 {
		root, _ := x.Root()
		x.Fit(root, []api.Span{span(1, 100), span(1<<19, 5000)})
		x.Walk(root, 1)
		x.Set(root, 1, at(1))
		x.List(root)
		x.Drop(root)
	}
}
