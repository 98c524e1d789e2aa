package core_test

import (
	"bytes"
	"cmp"
	"math"
	"reflect"
	"slices"
	"testing"

	"cofferdam/api"
	"cofferdam/core"
	"cofferdam/disk"
	"cofferdam/frames"
	"cofferdam/plan"
	"cofferdam/tlb"
)

// usual is the configuration of the document's examples.
func usual() api.Config {
	return api.Config{
		Frames: 64, Colours: 4, Ways: 2, L1Sets: 4, L1Ways: 2, TLB: 4,
		Costs: api.Costs{L1: 1, LLC: 4, Miss: 10, Fault: 5, Step: 1, Disk: 20},
		Slice: 4000, Pad: 20, Turns: []int{0, 1},
		Parts: []api.Part{
			{Colours: []int{0, 1}, Order: 1, User: 4, Tables: 8, Spaces: 1, Regions: 1, Records: 1, Slots: 3},
			{Colours: []int{2}, User: 2, Tables: 6, Spaces: 1, Regions: 1, Records: 1, Slots: 3},
		},
	}
}

// least has one of each thing that the hardware has.
func least() api.Config {
	c := usual()
	c.Frames, c.Colours, c.Ways, c.L1Sets, c.L1Ways, c.TLB = 10, 1, 1, 1, 1, 1
	c.Turns = []int{0}
	c.Parts = []api.Part{{Colours: []int{0}, User: 2, Tables: 4, Spaces: 1, Regions: 1, Records: 1, Slots: 1}}
	return c
}

// odd has frames, ways and entries that are no powers of two, and prices that tell one from another.
func odd() api.Config {
	c := usual()
	c.Frames, c.Colours, c.Ways, c.L1Sets, c.L1Ways, c.TLB = 104, 8, 3, 8, 5, 7
	c.Costs = api.Costs{L1: 3, LLC: 17, Miss: 101, Fault: 2, Step: 13, Disk: 6}
	c.Slice, c.Pad = 1<<22, 1<<10
	c.Parts = []api.Part{
		{Colours: []int{3}, User: 2, Tables: 4, Spaces: 2, Regions: 2, Records: 2, Slots: 9},
		{Colours: []int{0, 2, 7}, Order: 3, User: 5, Tables: 8, Spaces: 6, Regions: 5, Records: 4, Slots: 5},
		{Colours: []int{1, 6}, Order: 2, User: 3, Tables: 5, Spaces: 3, Regions: 3, Records: 6, Slots: 1},
	}
	c.Turns = []int{2, 0, 1}
	return c
}

// dear has prices that are nearly as high as can be.
func dear() api.Config {
	c := least()
	c.L1Sets, c.L1Ways, c.Ways = 2, 2, 4
	c.Costs = api.Costs{L1: 30000, LLC: 31000, Miss: 32000, Fault: 1, Step: 7, Disk: 1}
	c.Slice, c.Pad = 1<<22, 1<<22
	return c
}

// even has one price for all touches.
func even() api.Config {
	c := usual()
	c.Costs.L1, c.Costs.LLC, c.Costs.Miss = 6, 6, 6
	return c
}

// greatest has as many frames, colours, sets, ways, entries and slots as there may be.
func greatest() api.Config {
	c := usual()
	c.Frames, c.Colours, c.Ways, c.L1Sets, c.L1Ways, c.TLB = 4096, 16, 16, 4096, 16, 64
	c.Slice, c.Pad = 1<<22, 1<<22
	c.Parts, c.Turns = nil, []int{7, 6, 5, 4, 3, 2, 1, 0}
	for p := range 8 {
		c.Parts = append(c.Parts, api.Part{Colours: []int{p, p + 8}, Order: 3, User: 204, Tables: 100, Spaces: 50, Regions: 50, Records: 100, Slots: 128})
	}
	return c
}

// all is each configuration here; the greatest comes last.
func all() []api.Config {
	return []api.Config{usual(), least(), odd(), dear(), even(), greatest()}
}

// small is those with few frames.
func small() []api.Config { return all()[:5] }

// clone shares no memory with c.
func clone(c api.Config) api.Config {
	c.Turns = slices.Clone(c.Turns)
	c.Parts = slices.Clone(c.Parts)
	for p := range c.Parts {
		c.Parts[p].Colours = slices.Clone(c.Parts[p].Colours)
	}
	return c
}

// slots is how many all partitions have together.
func slots(c api.Config) int {
	n := 0
	for _, p := range c.Parts {
		n += p.Slots
	}
	return n
}

// end is the first address that is not in memory.
func end(c api.Config) uint64 { return uint64(c.Frames) * 256 }

// none is cores that no call has made.
func none() []*core.Core { return []*core.Core{nil, {}, new(core.Core)} }

// farFrames is numbers of frames that no machine has; some of them wrap round to small ones, if they are multiplied or cut.
func farFrames(c api.Config) []int {
	return []int{-1, -2, -64, -256, -4096, c.Frames, c.Frames + 1, 4096, 4097, 1 << 16, 1 << 24, 1 << 31, 1 << 32, 1<<32 + 1, 1 << 56, 1<<56 + 1, 1 << 60, 1 << 62, -1 << 32, math.MaxInt, math.MinInt, math.MinInt + 1}
}

// farAddrs is addresses outside a machine's memory; some of them are inside, if they are cut.
func farAddrs(c api.Config) []uint64 {
	return []uint64{end(c), end(c) + 1, end(c) + 16, end(c) + 256, 1 << 20, 1<<20 + 256, 1 << 28, 1 << 32, 1<<32 + 1, 1 << 40, 1 << 60, 1 << 63, 1<<63 + 16, math.MaxUint64, math.MaxUint64 - 15, math.MaxUint64 - 255}
}

func made(t *testing.T, c api.Config) *core.Core {
	t.Helper()
	h, e := core.New(c)
	if h == nil || e != api.OK {
		t.Fatalf("New(%+v) = %v, %d", c, h, e)
	}
	return h
}

func well(t *testing.T, e api.Errno) {
	t.Helper()
	if e != api.OK {
		t.Fatalf("refused: %d", e)
	}
}

// meets touches addresses, and fails the test unless the last one meets that.
func meets(t *testing.T, h *core.Core, want api.Hit, l ...uint64) {
	t.Helper()
	if got, e := h.Touch(l...); got != want || e != api.OK {
		t.Fatalf("Touch(%v) = %+v, %d, want %+v", l, got, e, want)
	}
}

func settles(t *testing.T, h *core.Core, want uint64) {
	t.Helper()
	if n, e := h.Settle(); n != want || e != api.OK {
		t.Fatalf("Settle = %d, %d, want %d", n, e, want)
	}
}

func leaves(t *testing.T, h *core.Core, want uint64) {
	t.Helper()
	if n, e := h.Leave(); n != want || e != api.OK {
		t.Fatalf("Leave = %d, %d, want %d", n, e, want)
	}
}

func holds(t *testing.T, h *core.Core, want ...api.Line) {
	t.Helper()
	if l := h.Lines(); !slices.Equal(l, want) {
		t.Fatalf("Lines = %v, want %v", l, want)
	}
}

// whole is all bytes of a core's memory.
func whole(t *testing.T, h *core.Core) []byte {
	t.Helper()
	var l []byte
	for f := range h.Frames() {
		b, e := h.Page(f)
		well(t, e)
		l = append(l, b...)
	}
	return l
}

// device is what stands in the slots that are used.
func device(t *testing.T, h *core.Core) [][]byte {
	t.Helper()
	var l [][]byte
	for _, s := range h.Used() {
		b, e := h.Read(s)
		well(t, e)
		l = append(l, append([]byte{byte(s), byte(s >> 8)}, b...))
	}
	return l
}

// alike fails the test unless two cores of a configuration hold the same; it asks of L1 by touches, so that they are not as they were then, but alike still.
func alike(t *testing.T, c api.Config, a, b *core.Core) {
	t.Helper()
	settled(t, a, b)
	if !slices.Equal(a.Lines(), b.Lines()) || !slices.Equal(a.All(), b.All()) {
		t.Fatalf("%v and %v, %v and %v", a.Lines(), b.Lines(), a.All(), b.All())
	}
	if !bytes.Equal(whole(t, a), whole(t, b)) || !slices.EqualFunc(device(t, a), device(t, b), bytes.Equal) {
		t.Fatal("the bytes are not alike")
	}
	for pa := uint64(0); pa < end(c); pa += 16 {
		x, e := a.Touch(pa)
		well(t, e)
		meets(t, b, x, pa)
	}
	settled(t, a, b)
	m, _ := a.Leave()
	leaves(t, b, m)
}

// settled fails the test unless as much was spent in both cores.
func settled(t *testing.T, a, b *core.Core) {
	t.Helper()
	n, e := a.Settle()
	well(t, e)
	settles(t, b, n)
}

// dice are numbers that look like chance, the same ones in each run.
type dice uint64

func (d *dice) below(n int) int {
	*d = *d*6364136223846793005 + 1442695040888963407
	return int(uint64(*d) >> 33 % uint64(n))
}

// page is 256 bytes.
func (d *dice) page() []byte {
	b := make([]byte, 256)
	for i := range b {
		b[i] = byte(d.below(256))
	}
	return b
}

// past is a cache by the document's words: of each line that was ever touched when that was last. A set holds the last ones of its lines, as many as it has ways.
type past struct {
	ways  int
	setOf func(line uint64) int
	now   int
	last  map[uint64]int
}

// younger is how many lines of a line's set were touched behind its last touch.
func (p *past) younger(line uint64) int {
	n := 0
	for other, at := range p.last {
		if p.setOf(other) == p.setOf(line) && at > p.last[line] {
			n++
		}
	}
	return n
}

func (p *past) has(line uint64) bool { return p.last[line] > 0 && p.younger(line) < p.ways }

func (p *past) touch(line uint64) bool {
	is := p.has(line)
	p.now++
	p.last[line] = p.now
	return is
}

// lines is set by set, in each the youngest first.
func (p *past) lines() []api.Line {
	var l []api.Line
	for line := range p.last {
		if p.has(line) {
			l = append(l, api.Line{Set: p.setOf(line), Tag: line})
		}
	}
	slices.SortFunc(l, func(a, b api.Line) int {
		return cmp.Or(cmp.Compare(a.Set, b.Set), cmp.Compare(p.last[b.Tag], p.last[a.Tag]))
	})
	return l
}

// plain is a core's caches by the document's words, and what was spent.
type plain struct {
	c       api.Config
	l1, llc past
	spent   uint64
}

func newPlain(c api.Config) *plain {
	m := &plain{c: c}
	m.l1 = past{ways: c.L1Ways, last: map[uint64]int{}, setOf: func(line uint64) int { return int(line) % c.L1Sets }}
	m.llc = past{ways: c.Ways, last: map[uint64]int{}, setOf: func(line uint64) int {
		frame := int(line) / 16
		return frame%c.Colours*16 + int(line)%16
	}}
	return m
}

func (m *plain) touch(pa uint64) api.Hit {
	if m.l1.touch(pa / 16) {
		m.spent += m.c.Costs.L1
		return api.Hit{L1: true}
	}
	if m.llc.touch(pa / 16) {
		m.spent += m.c.Costs.LLC
		return api.Hit{LLC: true}
	}
	m.spent += m.c.Costs.Miss
	return api.Hit{}
}

// sweep touches all lines of some frames, line by line.
func (m *plain) sweep(l ...int) {
	for line := range 16 {
		for _, frame := range l {
			m.touch(uint64(frame*256 + line*16))
		}
	}
}

func (m *plain) settle() uint64 {
	n := m.spent
	m.spent = 0
	return n
}

// leave is how many lines L1 held, which are gone.
func (m *plain) leave() uint64 {
	n := len(m.l1.lines())
	clear(m.l1.last)
	return uint64(n)
}

// What a touch can meet.
var (
	inL1   = api.Hit{L1: true}
	inLLC  = api.Hit{LLC: true}
	inNone = api.Hit{}
)

// oneFull is a translation with all that one can say.
var oneFull = api.Trans{Asid: 1, Page: 2, Frame: 3, Read: true, Write: true, Dirty: true}

// P14.1

func TestP14_1MayBe(t *testing.T) {
	for i, c := range all() {
		if !plan.May(c) {
			t.Fatalf("the configuration %d may not be: %v", i, plan.Check(c))
		}
	}
}

func TestP14_1AllIsEmpty(t *testing.T) {
	for _, c := range all() {
		h := made(t, c)
		if h.Frames() != c.Frames || h.Slots() != slots(c) {
			t.Fatalf("%d frames, %d slots", h.Frames(), h.Slots())
		}
		if slices.ContainsFunc(whole(t, h), func(b byte) bool { return b != 0 }) {
			t.Fatal("a byte is not 0")
		}
		if len(h.All()) != 0 || len(h.Used()) != 0 {
			t.Fatalf("%v, %v", h.All(), h.Used())
		}
		holds(t, h)
		settles(t, h, 0)
		leaves(t, h, 0)
	}
}

// Each thing has the size that the configuration says, and its ends.
func TestP14_1Sizes(t *testing.T) {
	for _, c := range all() {
		h := made(t, c)
		for i := range c.TLB + 3 {
			well(t, h.Fill(api.Trans{Asid: i % 128, Page: i}))
			if len(h.All()) != min(i+1, c.TLB) {
				t.Fatalf("%d translations behind %d", len(h.All()), i+1)
			}
		}
		b := make([]byte, 256)
		well(t, h.Write(slots(c)-1, b))
		if e := h.Write(slots(c), b); e != api.ErrArg {
			t.Fatalf("Write behind the last slot: %d", e)
		}
		well(t, h.Store(end(c)-8, 8, 1))
		if e := h.SetByte(end(c), 1); e != api.ErrAddr {
			t.Fatalf("SetByte behind the last byte: %d", e)
		}
	}
}

// L1 has L1Sets sets of L1Ways, the last-level cache 16 sets of Ways for each colour.
func TestP14_1CachesAreFull(t *testing.T) {
	for _, c := range all() {
		h := made(t, c)
		for f := range c.Frames {
			well(t, h.Zero(f))
		}
		room := 16 * c.Colours * min(c.Ways, c.Frames/c.Colours)
		if n := len(h.Lines()); n != room {
			t.Fatalf("the last-level cache holds %d lines, want %d", n, room)
		}
		leaves(t, h, c.Costs.Step*uint64(min(c.L1Sets*c.L1Ways, 16*c.Frames)))
	}
}

// wrong is configurations that may not be, one for each thing with which something can be wrong.
func wrong() []api.Config {
	var l []api.Config
	for _, change := range []func(c *api.Config){
		func(c *api.Config) { *c = api.Config{} },
		func(c *api.Config) { c.Frames = 0 },
		func(c *api.Config) { c.Frames = 66 },
		func(c *api.Config) { c.Frames = 4100 },
		func(c *api.Config) { c.Frames = math.MinInt },
		func(c *api.Config) { c.Colours = 0 },
		func(c *api.Config) { c.Colours = 3 },
		func(c *api.Config) { c.Colours = 32 },
		func(c *api.Config) { c.Ways = 0 },
		func(c *api.Config) { c.Ways = 17 },
		func(c *api.Config) { c.L1Sets = 0 },
		func(c *api.Config) { c.L1Sets = 3 },
		func(c *api.Config) { c.L1Sets = 8192 },
		func(c *api.Config) { c.L1Ways = 0 },
		func(c *api.Config) { c.L1Ways = 17 },
		func(c *api.Config) { c.TLB = 0 },
		func(c *api.Config) { c.TLB = 65 },
		func(c *api.Config) { c.Costs.L1 = 0 },
		func(c *api.Config) { c.Costs.LLC = 11 },
		func(c *api.Config) { c.Costs.Disk = 1<<16 + 1 },
		func(c *api.Config) { c.Slice = 100 },
		func(c *api.Config) { c.Pad = 11 },
		func(c *api.Config) { c.First = 1 << 40 },
		func(c *api.Config) { c.Turns = nil },
		func(c *api.Config) { c.Turns = []int{2} },
		func(c *api.Config) { c.Parts = nil },
		func(c *api.Config) { c.Parts[1].Colours = []int{1} },
		func(c *api.Config) { c.Parts[1].Slots = 1022 },
		func(c *api.Config) { c.Parts[0].User = 1 },
	} {
		c := usual()
		change(&c)
		l = append(l, c)
	}
	return l
}

func TestP14_1WhatMayNotBe(t *testing.T) {
	for i, c := range wrong() {
		if h, e := core.New(c); h != nil || e != api.ErrPlan {
			t.Errorf("New of the wrong configuration %d = %v, %d", i, h, e)
		}
	}
}

// A configuration is read, not changed, and not kept.
func TestP14_1TheConfigurationIsNotKept(t *testing.T) {
	for _, c := range small() {
		mine := clone(c)
		h, other := made(t, mine), made(t, clone(c))
		if !reflect.DeepEqual(mine, c) {
			t.Fatalf("the configuration became %+v", mine)
		}
		for i := range mine.Turns {
			mine.Turns[i] = -1
		}
		for p := range mine.Parts {
			clear(mine.Parts[p].Colours)
			mine.Parts[p] = api.Part{}
		}
		for f := range c.Frames {
			well(t, h.Zero(f))
			well(t, other.Zero(f))
		}
		alike(t, c, h, other)
	}
}

// Two cores share nothing.
func TestP14_1CoresAreApart(t *testing.T) {
	a, b, fresh := made(t, usual()), made(t, usual()), made(t, usual())
	d := dice(141)
	for f := range 64 {
		well(t, a.Bring(f, d.page()))
	}
	well(t, a.Write(2, d.page()))
	well(t, a.Fill(oneFull))
	well(t, a.Charge(99))
	alike(t, usual(), b, fresh)
}

// A core's parts are its own fields, of which a layer above can take hold.
func TestP14_1Embedded(t *testing.T) {
	h := made(t, usual())
	var m *frames.Memory = h.Memory
	var b *tlb.TLB = h.TLB
	var d *disk.Disk = h.Disk
	well(t, m.Store(300, 2, 0x1234))
	well(t, b.Fill(oneFull))
	well(t, d.Write(5, make([]byte, 256)))
	if v, e := h.Load(301, 1); v != 0x12 || e != api.OK {
		t.Errorf("Load = %d, %d", v, e)
	}
	if x, is, e := h.Find(1, 2); x != oneFull || !is || e != api.OK {
		t.Errorf("Find = %v, %v, %d", x, is, e)
	}
	if !slices.Equal(h.Used(), []int{5}) {
		t.Errorf("Used = %v", h.Used())
	}
	settles(t, h, 0)
}

// What is promoted costs nothing, and touches nothing.
func TestP14_1PromotedCallsCostNothing(t *testing.T) {
	h := made(t, usual())
	meets(t, h, inNone, 0, 256)
	settles(t, h, 20)
	before := h.Lines()
	b := dice(1410)
	page := b.page()
	h.Byte(64)
	h.SetByte(64, 1)
	h.Load(128, 8)
	h.Store(128, 8, 5)
	h.Memory.Zero(1)
	h.Memory.Copy(2, 3)
	h.Page(4)
	h.Put(5, page)
	h.Frames()
	h.Fill(oneFull)
	h.Find(1, 2)
	h.Peek(1, 2)
	h.Mark(1, 2)
	h.Drop(1, 2)
	h.DropAll(1)
	h.Empty()
	h.All()
	h.Write(0, page)
	h.Read(0)
	h.Used()
	h.Erase(0)
	h.Slots()
	settles(t, h, 0)
	holds(t, h, before...)
	leaves(t, h, 2)
}

// P14.2

func TestP14_2Examples(t *testing.T) {
	h := made(t, usual())
	meets(t, h, inNone, 0)
	meets(t, h, inL1, 5)
	meets(t, h, inNone, 64)
	meets(t, h, inNone, 128)
	meets(t, h, inLLC, 0)
	settles(t, h, 35)
	leaves(t, h, 2)
	settles(t, h, 0)
	meets(t, h, inLLC, 0)
	for _, l := range [][]uint64{{16384}, {0, 16384}} {
		if x, e := h.Touch(l...); x != inNone || e != api.ErrAddr {
			t.Errorf("Touch(%v) = %v, %d", l, x, e)
		}
	}
	meets(t, h, inNone)
	well(t, h.Charge(7))
	settles(t, h, 11)
	if e := h.Charge(1<<32 + 1); e != api.ErrArg {
		t.Errorf("Charge = %d", e)
	}
	well(t, h.Zero(3))
	settles(t, h, 160)
	if a, b := h.Bring(3, make([]byte, 255)), h.Copy(64, 0); a != api.ErrArg || b != api.ErrArg {
		t.Errorf("Bring = %d, Copy = %d", a, b)
	}
}

func TestP14_2CoresThatAreNone(t *testing.T) {
	for _, h := range none() {
		for _, l := range [][]uint64{nil, {0}, {1 << 63}, {0, 1, 2}, farAddrs(usual())} {
			if x, e := h.Touch(l...); x != inNone || e != api.ErrNil {
				t.Errorf("Touch(%v) = %v, %d", l, x, e)
			}
		}
	}
}

// Wherever an address is that is not in memory: none is touched.
func TestP14_2NotInMemory(t *testing.T) {
	for _, c := range small() {
		h, other := made(t, c), made(t, c)
		for _, pa := range farAddrs(c) {
			for at := range 4 {
				l := slices.Insert([]uint64{0, 16, end(c) - 1}, at, pa)
				if x, e := h.Touch(l...); x != inNone || e != api.ErrAddr {
					t.Fatalf("Touch(%v) = %v, %d", l, x, e)
				}
			}
		}
		meets(t, h, inNone, end(c)-1)
		meets(t, other, inNone, end(c)-1)
		alike(t, c, h, other)
	}
}

func TestP14_2Nothing(t *testing.T) {
	h := made(t, usual())
	meets(t, h, inNone, 7)
	meets(t, h, inL1, 7)
	settles(t, h, 11)
	meets(t, h, inNone)
	meets(t, h, inNone, []uint64{}...)
	settles(t, h, 0)
	holds(t, h, api.Line{Set: 0, Tag: 0})
}

// Each byte of a line touches that line, the next one's another one.
func TestP14_2LinesOfBytes(t *testing.T) {
	for _, c := range small() {
		h := made(t, c)
		for pa := range end(c) {
			want := inL1
			if pa%16 == 0 {
				want = inNone
			}
			meets(t, h, want, pa)
		}
	}
}

// In the greatest machine L1 has room for all lines.
func TestP14_2EachLineOfTheGreatest(t *testing.T) {
	c := greatest()
	h := made(t, c)
	for _, want := range []api.Hit{inNone, inL1} {
		for pa := uint64(15); pa < end(c); pa += 16 {
			meets(t, h, want, pa)
		}
	}
	settles(t, h, 65536*11)
	leaves(t, h, 65536)
	hits := 0
	for pa := uint64(0); pa < end(c); pa += 16 {
		x, _ := h.Touch(pa)
		if x == inLLC {
			hits++
		}
	}
	if hits != 0 {
		t.Fatalf("%d hits of lines that were touched in turns", hits)
	}
}

// A hit in L1 does not ask the last-level cache: there the line is no younger for it, and may leave while L1 holds it.
func TestP14_2AHitInL1AsksNoMore(t *testing.T) {
	h := made(t, usual())
	a, b, c := uint64(0), uint64(4*256), uint64(8*256)
	meets(t, h, inNone, a)
	meets(t, h, inNone, b)
	meets(t, h, inL1, a)
	holds(t, h, api.Line{Set: 0, Tag: 64}, api.Line{Set: 0, Tag: 0})
	meets(t, h, inNone, c)
	holds(t, h, api.Line{Set: 0, Tag: 128}, api.Line{Set: 0, Tag: 64})
	meets(t, h, inL1, a)
	meets(t, h, inL1, c)
	meets(t, h, inLLC, b)
	holds(t, h, api.Line{Set: 0, Tag: 64}, api.Line{Set: 0, Tag: 128})
	meets(t, h, inNone, a)
	settles(t, h, 10+10+1+10+1+1+4+10)
}

// Addresses that are told together are touched in their order, as one by one.
func TestP14_2OneBehindTheOther(t *testing.T) {
	d := dice(142)
	for _, c := range small() {
		a, b := made(t, c), made(t, c)
		for range 200 {
			var l []uint64
			var last api.Hit
			for range d.below(20) {
				pa := uint64(d.below(40)*16*d.below(4)) % end(c)
				l = append(l, pa)
				last, _ = b.Touch(pa)
			}
			if len(l) == 0 {
				last = inNone
			}
			mine := slices.Clone(l)
			meets(t, a, last, mine...)
			if !slices.Equal(mine, l) {
				t.Fatalf("what was handed in became %v", mine)
			}
			settled(t, a, b)
		}
		alike(t, c, a, b)
	}
}

// What is handed in is not changed, its spare room neither.
func TestP14_2WhatIsHandedIn(t *testing.T) {
	h := made(t, usual())
	l := []uint64{1, 2, 3, 77, 88}
	meets(t, h, inL1, l[:3]...)
	if !slices.Equal(l, []uint64{1, 2, 3, 77, 88}) {
		t.Fatalf("it became %v", l)
	}
}

// The set in L1 is the line's number modulo L1Sets: lines so far apart drive one another out, others do not.
func TestP14_2SetsOfL1(t *testing.T) {
	for _, c := range []api.Config{usual(), odd(), dear()} {
		for apart := 1; apart <= 2*c.L1Sets; apart++ {
			h := made(t, c)
			for i := range c.L1Ways + 1 {
				meets(t, h, inNone, uint64(i*apart*16))
			}
			sets := map[int]int{}
			for i := range c.L1Ways + 1 {
				sets[i*apart%c.L1Sets]++
			}
			x, _ := h.Touch(0)
			if full := sets[0] > c.L1Ways; x.L1 == full {
				t.Fatalf("lines %d apart, L1 of %d sets: the first one met %+v", apart, c.L1Sets, x)
			}
		}
	}
}

// P14.3

func TestP14_3CoresThatAreNone(t *testing.T) {
	for _, h := range none() {
		for _, n := range []uint64{0, 1, 1 << 32, 1<<32 + 1, math.MaxUint64} {
			if e := h.Charge(n); e != api.ErrNil {
				t.Errorf("Charge(%d) = %d", n, e)
			}
		}
		if n, e := h.Settle(); n != 0 || e != api.ErrNil {
			t.Errorf("Settle = %d, %d", n, e)
		}
	}
}

func TestP14_3Charges(t *testing.T) {
	for _, c := range small() {
		h := made(t, c)
		for _, n := range []uint64{0, 1, 2, 1 << 16, 1<<32 - 1, 1 << 32} {
			well(t, h.Charge(n))
			settles(t, h, n)
			settles(t, h, 0)
		}
		for _, n := range []uint64{1<<32 + 1, 1 << 33, 1 << 40, 1 << 63, math.MaxUint64, math.MaxUint64 - 1} {
			well(t, h.Charge(3))
			if e := h.Charge(n); e != api.ErrArg {
				t.Fatalf("Charge(%d) = %d", n, e)
			}
			settles(t, h, 3)
		}
		holds(t, h)
		leaves(t, h, 0)
	}
}

// What is spent is a sum, also one that has more than 32 bits.
func TestP14_3Sums(t *testing.T) {
	h := made(t, usual())
	for range 1000 {
		well(t, h.Charge(1<<32))
	}
	well(t, h.Charge(5))
	meets(t, h, inNone, 0)
	meets(t, h, inL1, 0)
	settles(t, h, 1000<<32+16)
	settles(t, h, 0)
}

// Touches cost what they meet, by the configuration's prices.
func TestP14_3Prices(t *testing.T) {
	for _, c := range all() {
		h := made(t, c)
		meets(t, h, inNone, 32)
		settles(t, h, c.Costs.Miss)
		meets(t, h, inL1, 47)
		settles(t, h, c.Costs.L1)
		if _, e := h.Leave(); e != api.OK {
			t.Fatal(e)
		}
		settles(t, h, 0)
		meets(t, h, inLLC, 33)
		settles(t, h, c.Costs.LLC)
		meets(t, h, inL1, 33, 34, 35)
		well(t, h.Charge(100))
		settles(t, h, 3*c.Costs.L1+100)
	}
}

// P14.4

func TestP14_4CoresThatAreNone(t *testing.T) {
	for _, h := range none() {
		for _, f := range append(farFrames(usual()), 0, 1) {
			if e := h.Zero(f); e != api.ErrNil {
				t.Errorf("Zero(%d) = %d", f, e)
			}
			if e := h.Copy(f, f); e != api.ErrNil {
				t.Errorf("Copy(%d, %d) = %d", f, f, e)
			}
			for _, n := range []int{0, 255, 256} {
				if e := h.Bring(f, make([]byte, n)); e != api.ErrNil {
					t.Errorf("Bring(%d, %d bytes) = %d", f, n, e)
				}
			}
		}
	}
}

// filled is a core whose bytes are all sorts of things; nothing was touched in it.
func filled(t *testing.T, c api.Config, d *dice) *core.Core {
	t.Helper()
	h := made(t, c)
	for f := range c.Frames {
		well(t, h.Put(f, d.page()))
	}
	return h
}

// Of each frame the bytes, and those of the others, and the lines 0 to 15 in this order.
func TestP14_4Zero(t *testing.T) {
	for _, c := range small() {
		for f := range c.Frames {
			d := dice(144)
			h := filled(t, c, &d)
			want := whole(t, h)
			clear(want[f*256 : f*256+256])
			well(t, h.Zero(f))
			if !bytes.Equal(whole(t, h), want) {
				t.Fatalf("the bytes behind Zero(%d) are wrong", f)
			}
			swept(t, c, h, f)
		}
	}
}

// swept fails the test unless just the lines of frames were touched in a core.
func swept(t *testing.T, c api.Config, h *core.Core, l ...int) {
	t.Helper()
	m := newPlain(c)
	m.sweep(l...)
	settles(t, h, m.settle())
	holds(t, h, m.llc.lines()...)
	d := dice(1441)
	for range 20 {
		pa := uint64(l[d.below(len(l))]*256 + d.below(256))
		meets(t, h, m.touch(pa), pa)
	}
	leaves(t, h, c.Costs.Step*m.leave())
}

func TestP14_4Copy(t *testing.T) {
	for _, c := range small() {
		for to := range c.Frames {
			for _, from := range []int{0, to, (to + 1) % c.Frames, (to + c.Colours) % c.Frames, c.Frames - 1} {
				d := dice(1442)
				h := filled(t, c, &d)
				want := whole(t, h)
				copy(want[to*256:to*256+256], want[from*256:from*256+256])
				well(t, h.Copy(to, from))
				if !bytes.Equal(whole(t, h), want) {
					t.Fatalf("the bytes behind Copy(%d, %d) are wrong", to, from)
				}
				swept(t, c, h, from, to)
			}
		}
	}
}

// Line by line, of from ahead of to: in L1 of one set of one line that tells the orders apart.
func TestP14_4TheOrderOfACopy(t *testing.T) {
	c := least()
	h := made(t, c)
	well(t, h.Copy(2, 1))
	settles(t, h, 32*c.Costs.Miss)
	meets(t, h, inL1, 2*256+15*16)
	h = made(t, c)
	well(t, h.Copy(1, 1))
	settles(t, h, 16*c.Costs.Miss+16*c.Costs.L1)
	u := usual()
	h = made(t, u)
	well(t, h.Copy(4, 0))
	var want []api.Line
	for set := range 16 {
		want = append(want, api.Line{Set: set, Tag: uint64(64 + set)}, api.Line{Set: set, Tag: uint64(set)})
	}
	holds(t, h, want...)
	settles(t, h, 320)
}

func TestP14_4Bring(t *testing.T) {
	for _, c := range small() {
		for f := range c.Frames {
			d := dice(1443)
			h := filled(t, c, &d)
			want := whole(t, h)
			room := append(d.page(), 1, 2, 3)
			b := room[:256]
			copy(want[f*256:], b)
			mine := slices.Clone(room)
			well(t, h.Bring(f, b))
			if !bytes.Equal(room, mine) {
				t.Fatal("what was handed in has changed")
			}
			clear(b)
			if !bytes.Equal(whole(t, h), want) {
				t.Fatalf("the bytes behind Bring(%d) are wrong", f)
			}
			swept(t, c, h, f)
		}
	}
}

// A core's own Zero and Copy stand ahead of the memory's, which cost nothing.
func TestP14_4AheadOfTheMemorys(t *testing.T) {
	h := made(t, usual())
	well(t, h.Store(0, 8, 0x77))
	well(t, h.Memory.Copy(9, 0))
	well(t, h.Memory.Zero(0))
	settles(t, h, 0)
	if v, _ := h.Load(9*256, 8); v != 0x77 {
		t.Errorf("Load = %d", v)
	}
	well(t, h.Copy(0, 9))
	settles(t, h, 320)
	well(t, h.Zero(9))
	settles(t, h, 64)
	if v, _ := h.Load(0, 8); v != 0x77 {
		t.Errorf("Load = %d", v)
	}
}

// busy does a bit of everything with a core.
func busy(t *testing.T, c api.Config, h *core.Core) {
	t.Helper()
	d := dice(99)
	for f := range min(c.Frames, 64) {
		well(t, h.Bring(f, d.page()))
	}
	well(t, h.Write(0, d.page()))
	well(t, h.Fill(oneFull))
	well(t, h.Charge(12345))
}

// With an error nothing has changed.
func TestP14_4Refused(t *testing.T) {
	for _, c := range all() {
		h, other := made(t, c), made(t, c)
		busy(t, c, h)
		busy(t, c, other)
		refuses := func(what string, e api.Errno) {
			t.Helper()
			if e != api.ErrArg {
				t.Fatalf("%s = %d", what, e)
			}
		}
		b := make([]byte, 1<<16)
		for _, f := range farFrames(c) {
			if f >= 0 && f < c.Frames {
				continue
			}
			refuses("Zero", h.Zero(f))
			refuses("Copy to", h.Copy(f, 0))
			refuses("Copy from", h.Copy(0, f))
			refuses("Copy to and from", h.Copy(f, f))
			refuses("Bring", h.Bring(f, b[:256]))
			refuses("Bring", h.Bring(f, nil))
		}
		for _, n := range []int{0, 1, 16, 255, 257, 512, 1 << 16} {
			refuses("Bring of so many", h.Bring(1, b[:n]))
		}
		refuses("Bring of none", h.Bring(0, nil))
		alike(t, c, h, other)
	}
}

// P14.5

func TestP14_5CoresThatAreNone(t *testing.T) {
	for _, h := range none() {
		if n, e := h.Leave(); n != 0 || e != api.ErrNil {
			t.Errorf("Leave = %d, %d", n, e)
		}
		if l := h.Lines(); len(l) != 0 {
			t.Errorf("Lines = %v", l)
		}
	}
}

// So many lines and translations, each for a step.
func TestP14_5WhatLeavingCosts(t *testing.T) {
	for _, c := range small() {
		h := made(t, c)
		for lines := range c.L1Sets*c.L1Ways + 2 {
			for n := range c.TLB + 2 {
				for i := range lines {
					meets(t, h, inNone, uint64(i*16))
				}
				for i := range n {
					well(t, h.Fill(api.Trans{Asid: 16, Page: i, Frame: i}))
				}
				held := min(lines, c.L1Sets*c.L1Ways) + min(n, c.TLB)
				leaves(t, h, uint64(held)*c.Costs.Step)
				leaves(t, h, 0)
				h = made(t, c)
			}
		}
	}
}

func TestP14_5TheMostThatLeavingCosts(t *testing.T) {
	h := made(t, greatest())
	for f := range 4096 {
		well(t, h.Zero(f))
	}
	for i := range 100 {
		well(t, h.Fill(api.Trans{Asid: 127, Page: i}))
	}
	leaves(t, h, 65536+64)
	leaves(t, h, 0)
}

// L1 and the TLB are empty; nothing else has changed, and nothing is spent by it.
func TestP14_5WhatStays(t *testing.T) {
	for _, c := range small() {
		h, other := made(t, c), made(t, c)
		busy(t, c, h)
		busy(t, c, other)
		lines := h.Lines()
		if _, e := h.Leave(); e != api.OK || len(h.All()) != 0 {
			t.Fatalf("Leave: %d, and %v", e, h.All())
		}
		settled(t, h, other)
		holds(t, h, lines...)
		if !bytes.Equal(whole(t, h), whole(t, other)) || !slices.EqualFunc(device(t, h), device(t, other), bytes.Equal) {
			t.Fatal("the bytes have changed")
		}
		for pa := uint64(0); pa < end(c); pa += 16 {
			is := slices.ContainsFunc(h.Lines(), func(l api.Line) bool { return l.Tag == pa/16 })
			meets(t, h, api.Hit{LLC: is}, pa)
		}
	}
}

// A core that was left is as good as one that never touched anything, but for the last-level cache.
func TestP14_5AsNew(t *testing.T) {
	c := usual()
	h, other := made(t, c), made(t, c)
	meets(t, h, inNone, 0, 16, 32, 48)
	leaves(t, h, 4)
	settles(t, h, 40)
	for i := range 4 {
		meets(t, other, inNone, uint64(i*16))
		leaves(t, other, 1)
	}
	settles(t, other, 40)
	alike(t, c, h, other)
}

func TestP14_5LinesAreNew(t *testing.T) {
	h := made(t, usual())
	well(t, h.Zero(5))
	a, b := h.Lines(), h.Lines()
	for i := range a {
		a[i] = api.Line{Set: -1, Tag: 99999}
	}
	a = append(a, a...)
	clear(a[:cap(a)])
	holds(t, h, b...)
	if len(b) != 16 || b[0] != (api.Line{Set: 16, Tag: 80}) || b[15] != (api.Line{Set: 31, Tag: 95}) {
		t.Fatalf("Lines = %v", b)
	}
	meets(t, h, inL1, 5*256+255)
}

// Set by set, in each the youngest first.
func TestP14_5TheOrderOfLines(t *testing.T) {
	h := made(t, usual())
	meets(t, h, inNone, 3*256, 256+16, 5*256+16, 7*256, 0)
	holds(t, h, api.Line{Set: 0, Tag: 0}, api.Line{Set: 17, Tag: 81}, api.Line{Set: 17, Tag: 17}, api.Line{Set: 48, Tag: 112}, api.Line{Set: 48, Tag: 48})
	leaves(t, h, 4)
	meets(t, h, inLLC, 256+16)
	holds(t, h, api.Line{Set: 0, Tag: 0}, api.Line{Set: 17, Tag: 17}, api.Line{Set: 17, Tag: 81}, api.Line{Set: 48, Tag: 112}, api.Line{Set: 48, Tag: 48})
}

// P14.6

// wander does one thing by chance, with a core and with the plain one; trans is how many translations there are.
func wander(t *testing.T, c api.Config, h *core.Core, m *plain, d *dice, trans *int) {
	t.Helper()
	switch k := d.below(24); {
	case k < 16:
		pa := uint64(d.below(c.Frames)*256 + d.below(3)*16 + d.below(16))
		meets(t, h, m.touch(pa), pa)
	case k == 16:
		f := d.below(c.Frames)
		well(t, h.Zero(f))
		m.sweep(f)
	case k == 17:
		to, from := d.below(c.Frames), d.below(c.Frames)
		well(t, h.Copy(to, from))
		m.sweep(from, to)
	case k == 18:
		f := d.below(c.Frames)
		well(t, h.Bring(f, d.page()))
		m.sweep(f)
	case k == 19:
		well(t, h.Fill(api.Trans{Asid: d.below(128), Page: d.below(1 << 20), Frame: d.below(4096)}))
		*trans = len(h.All())
	case k == 20:
		n := uint64(d.below(1000))
		well(t, h.Charge(n))
		m.spent += n
	case k == 21:
		leaves(t, h, c.Costs.Step*(m.leave()+uint64(*trans)))
		*trans = 0
	case k == 22:
		settles(t, h, m.settle())
	default:
		if _, e := h.Touch(0, farAddrs(c)[d.below(4)]); e != api.ErrAddr {
			t.Fatalf("Touch = %d", e)
		}
	}
}

func TestP14_6AsThePlainOne(t *testing.T) {
	d := dice(146)
	for _, c := range small() {
		h, m := made(t, c), newPlain(c)
		trans := 0
		for i := range 1500 {
			wander(t, c, h, m, &d, &trans)
			if i%50 == 0 {
				holds(t, h, m.llc.lines()...)
			}
		}
		settles(t, h, m.settle())
		holds(t, h, m.llc.lines()...)
	}
}

// Each line stands in the set of its frame's colour.
func TestP14_6SetsAndColours(t *testing.T) {
	d := dice(1460)
	for _, c := range all() {
		h := made(t, c)
		for range 50 {
			for range 60 {
				pa := uint64(d.below(int(end(c))))
				if _, e := h.Touch(pa); e != api.OK {
					t.Fatal(e)
				}
			}
			seen := map[api.Line]int{}
			sizes := map[int]int{}
			for _, l := range h.Lines() {
				frame := int(l.Tag / 16)
				if l.Set != frame%c.Colours*16+int(l.Tag%16) || frame >= c.Frames {
					t.Fatalf("%+v, of the frame %d", l, frame)
				}
				seen[l]++
				sizes[l.Set]++
				if seen[l] > 1 || sizes[l.Set] > c.Ways {
					t.Fatalf("%+v is there %d times, in a set of %d", l, seen[l], sizes[l.Set])
				}
			}
		}
	}
}

// noise is what others do with a core: all sorts of things, with frames of other colours alone.
func noise(t *testing.T, c api.Config, h *core.Core, mine []int, d *dice) {
	t.Helper()
	var theirs []int
	for f := range c.Frames {
		if !slices.Contains(mine, f%c.Colours) {
			theirs = append(theirs, f)
		}
	}
	for range d.below(30) {
		f := theirs[d.below(len(theirs))]
		switch d.below(5) {
		case 0:
			well(t, h.Zero(f))
		case 1:
			well(t, h.Copy(f, theirs[d.below(len(theirs))]))
		case 2:
			well(t, h.Bring(f, d.page()))
		case 3:
			well(t, h.Fill(api.Trans{Asid: 127, Page: d.below(9), Frame: f}))
		default:
			if _, e := h.Touch(uint64(f*256 + d.below(256))); e != api.OK {
				t.Fatal(e)
			}
		}
	}
}

// Two cores are left at the same places; in one of them others are busy there. One's own touches meet and cost the same.
func TestP14_6NothingIsHeard(t *testing.T) {
	for _, c := range []api.Config{usual(), odd(), greatest()} {
		for p, part := range c.Parts {
			own, others := dice(1461+p), dice(31)
			quiet, loud := made(t, c), made(t, c)
			for range 40 {
				for range own.below(40) {
					f := own.below(c.Frames/c.Colours)*c.Colours + part.Colours[own.below(len(part.Colours))]
					pa := uint64(f*256 + own.below(4)*16)
					x, e := quiet.Touch(pa)
					well(t, e)
					meets(t, loud, x, pa)
					settled(t, quiet, loud)
				}
				n, _ := quiet.Leave()
				leaves(t, loud, n)
				noise(t, c, loud, part.Colours, &others)
				if _, e := loud.Leave(); e != api.OK {
					t.Fatal(e)
				}
				if _, e := loud.Settle(); e != api.OK {
					t.Fatal(e)
				}
			}
		}
	}
}

// Each touch costs from L1 to Miss; the same line is hit in L1 at once again.
func TestP14_6EachTouch(t *testing.T) {
	d := dice(1462)
	for _, c := range all() {
		h := made(t, c)
		for range 3000 {
			pa := uint64(d.below(c.Frames)*256 + d.below(2)*16)
			x, e := h.Touch(pa)
			well(t, e)
			n, _ := h.Settle()
			if n < c.Costs.L1 || n > c.Costs.Miss || x.L1 && x.LLC {
				t.Fatalf("Touch(%d) met %+v, and cost %d", pa, x, n)
			}
			meets(t, h, inL1, pa/16*16+uint64(d.below(16)))
			settles(t, h, c.Costs.L1)
			if d.below(50) == 0 {
				h.Leave()
			}
		}
	}
}
