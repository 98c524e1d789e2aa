package anon_test

import (
	"bytes"
	"math"
	"slices"
	"testing"

	"cofferdam/anon"
	"cofferdam/api"
	"cofferdam/core"
	"cofferdam/pool"
	"cofferdam/slab"
)

// usual is the configuration of the document's examples.
func usual() api.Config {
	return api.Config{
		Frames: 64, Colours: 4, Ways: 2, L1Sets: 4, L1Ways: 2, TLB: 4,
		Costs: api.Costs{L1: 1, LLC: 4, Miss: 10, Fault: 5, Step: 1, Disk: 20},
		Slice: 4000, Pad: 20, Turns: []int{0, 1},
		Parts: []api.Part{
			{Colours: []int{0, 1}, Order: 1, User: 4, Tables: 8, Spaces: 1, Regions: 1, Records: 1, Slots: 3},
			{Colours: []int{2}, User: 2, Tables: 6, Spaces: 1, Regions: 1, Records: 1, Slots: 3},
		},
	}
}

// odd has several frames of records in each partition, and prices that tell one from another.
func odd() api.Config {
	c := usual()
	c.Frames, c.Colours, c.Ways, c.L1Sets, c.L1Ways, c.TLB = 104, 8, 3, 8, 5, 7
	c.Costs = api.Costs{L1: 3, LLC: 17, Miss: 101, Fault: 2, Step: 13, Disk: 6}
	c.Slice, c.Pad = 1<<22, 1<<10
	c.Parts = []api.Part{
		{Colours: []int{3}, User: 2, Tables: 4, Spaces: 2, Regions: 2, Records: 2, Slots: 9},
		{Colours: []int{0, 2, 7}, Order: 3, User: 5, Tables: 8, Spaces: 6, Regions: 5, Records: 4, Slots: 5},
		{Colours: []int{1, 6}, Order: 2, User: 3, Tables: 5, Spaces: 3, Regions: 3, Records: 6, Slots: 1},
	}
	c.Turns = []int{2, 0, 1}
	return c
}

// greatest has as many records as pages can be mapped, and some more.
func greatest() api.Config {
	c := usual()
	c.Frames, c.Colours, c.Slice = 4096, 16, 1<<22
	c.Turns = []int{0}
	c.Parts = []api.Part{{User: 2000, Tables: 1000, Spaces: 488, Regions: 300, Records: 300, Order: 3, Slots: 1024}}
	for i := range 16 {
		c.Parts[0].Colours = append(c.Parts[0].Colours, i)
	}
	return c
}

// each calls a function with each partition of the smaller configurations.
func each(do func(c api.Config, p int)) {
	for _, c := range []api.Config{usual(), odd()} {
		for p := range c.Parts {
			do(c, p)
		}
	}
}

// dice are numbers that look like chance, the same ones in each run.
type dice uint64

func (d *dice) below(n int) int {
	*d = *d*6364136223846793005 + 1442695040888963407
	return int(uint64(*d) >> 33 % uint64(n))
}

// bare is a core, a partition's pool, whose image is not taken, and a slab of it.
func bare(t *testing.T, c api.Config, p int, use uint8) (*core.Core, *pool.Pool, *slab.Slab) {
	t.Helper()
	h, e := core.New(c)
	q, f := pool.New(c, p)
	if e != api.OK || f != api.OK {
		t.Fatalf("core.New: %d, pool.New: %d", e, f)
	}
	s, e := slab.New(q, use)
	if e != api.OK {
		t.Fatalf("slab.New: %d", e)
	}
	return h, q, s
}

// hardware is a core and a slab, with the image taken.
func hardware(t *testing.T, c api.Config, p int, use uint8) (*core.Core, *slab.Slab) {
	t.Helper()
	h, q, s := bare(t, c, p, use)
	if _, e := q.Image(); e != api.OK {
		t.Fatalf("Image: %d", e)
	}
	return h, s
}

// known is what a record ought to be.
type known struct {
	id   int
	x    api.Anon
	at   uint64
	pids [16]bool
}

// list is the record as it is told.
func (k *known) list() api.Anon {
	x := k.x
	for pid, is := range k.pids {
		if is {
			x.Pids = append(x.Pids, pid)
		}
	}
	return x
}

// rig is records, with what they stand on, and what they ought to be, in a plain row; these stand on hardware that is the same, but their own.
type rig struct {
	*testing.T
	h, own  *core.Core
	s, mine *slab.Slab
	a       *anon.Anons
	row     []*known
}

func made(t *testing.T, c api.Config, p int) *rig {
	t.Helper()
	r := &rig{T: t}
	r.h, r.s = hardware(t, c, p, api.UsePage)
	r.own, r.mine = hardware(t, c, p, api.UsePage)
	a, e := anon.New(r.h, r.s)
	if a == nil || e != api.OK {
		t.Fatalf("New = %v, %d", a, e)
	}
	r.a = a
	return r
}

// find is what the record with a number ought to be.
func (r *rig) find(id int) *known {
	for _, k := range r.row {
		if k.id == id {
			return k
		}
	}
	return nil
}

// of is the number of the record of a page that a process ought to have.
func (r *rig) of(page, pid int) (int, bool) {
	for _, k := range r.row {
		if k.x.Page == page && k.pids[pid] {
			return k.id, true
		}
	}
	return 0, false
}

func in(x, n int) bool { return 0 <= x && x < n }

// paid fails the test unless as much was spent as ought to be.
func (r *rig) paid() {
	r.Helper()
	n, e := r.h.Settle()
	if want, _ := r.own.Settle(); n != want || e != api.OK {
		r.Fatalf("%d cycles were spent (%d); want %d", n, e, want)
	}
}

// make fails the test unless Make answers, and costs, what it ought to.
func (r *rig) make(page, pid int) int {
	r.Helper()
	want, error := r.wantMade(page, pid)
	id, e := r.a.Make(page, pid)
	if id != want || e != error {
		r.Fatalf("Make(%d, %d) = %d, %d; want %d, %d", page, pid, id, e, want, error)
	}
	r.paid()
	return id
}

func (r *rig) wantMade(page, pid int) (int, api.Errno) {
	if !in(page, 1<<20) || !in(pid, 16) {
		return 0, api.ErrArg
	}
	if _, is := r.of(page, pid); is {
		return 0, api.ErrBusy
	}
	at, e := r.mine.Take()
	if e != api.OK {
		return 0, e
	}
	id := 0
	for id < len(r.row) && r.row[id].id == id {
		id++
	}
	k := &known{id: id, at: at, x: api.Anon{Page: page, Frame: -1, Slot: -1}}
	k.pids[pid] = true
	r.row = slices.Insert(r.row, id, k)
	r.own.Touch(at)
	return id, api.OK
}

// share fails the test unless Share answers, and costs, what it ought to.
func (r *rig) share(id, pid int) {
	r.Helper()
	want := r.wantShared(id, pid)
	if e := r.a.Share(id, pid); e != want {
		r.Fatalf("Share(%d, %d) = %d; want %d", id, pid, e, want)
	}
	r.paid()
}

func (r *rig) wantShared(id, pid int) api.Errno {
	k := r.find(id)
	if k == nil {
		return api.ErrAnon
	}
	if !in(pid, 16) {
		return api.ErrArg
	}
	if _, is := r.of(k.x.Page, pid); is {
		return api.ErrBusy
	}
	k.pids[pid] = true
	r.own.Touch(k.at)
	return api.OK
}

// leave fails the test unless Leave answers, and costs, what it ought to.
func (r *rig) leave(id, pid int) {
	r.Helper()
	want, error := r.wantLeft(id, pid)
	if n, e := r.a.Leave(id, pid); n != want || e != error {
		r.Fatalf("Leave(%d, %d) = %d, %d; want %d, %d", id, pid, n, e, want, error)
	}
	r.paid()
}

func (r *rig) wantLeft(id, pid int) (int, api.Errno) {
	k := r.find(id)
	if k == nil {
		return 0, api.ErrAnon
	}
	if !in(pid, 16) {
		return 0, api.ErrArg
	}
	if !k.pids[pid] {
		return 0, api.ErrProc
	}
	r.own.Touch(k.at)
	k.pids[pid] = false
	n := len(k.list().Pids)
	if n == 0 {
		r.row = slices.DeleteFunc(r.row, func(other *known) bool { return other == k })
		r.mine.Give(k.at)
	}
	return n, api.OK
}

// frame fails the test unless Frame answers, and costs, what it ought to.
func (r *rig) frame(id, frame int) {
	r.Helper()
	want, k := api.OK, r.find(id)
	switch {
	case k == nil:
		want = api.ErrAnon
	case !in(frame, 4096):
		want = api.ErrArg
	default:
		k.x.Frame, k.x.Slot = frame, -1
	}
	if e := r.a.Frame(id, frame); e != want {
		r.Fatalf("Frame(%d, %d) = %d; want %d", id, frame, e, want)
	}
	r.paid()
}

// slot fails the test unless Slot answers, and costs, what it ought to.
func (r *rig) slot(id, slot int) {
	r.Helper()
	want, k := api.OK, r.find(id)
	switch {
	case k == nil:
		want = api.ErrAnon
	case !in(slot, 1024):
		want = api.ErrArg
	default:
		k.x.Frame, k.x.Slot = -1, slot
	}
	if e := r.a.Slot(id, slot); e != want {
		r.Fatalf("Slot(%d, %d) = %d; want %d", id, slot, e, want)
	}
	r.paid()
}

func same(a, b api.Anon) bool {
	return a.Page == b.Page && a.Frame == b.Frame && a.Slot == b.Slot && slices.Equal(a.Pids, b.Pids)
}

// gets fails the test unless Get answers what it ought to.
func (r *rig) gets(id int) {
	r.Helper()
	want, error := api.Anon{}, api.ErrAnon
	if k := r.find(id); k != nil {
		want, error = k.list(), api.OK
	}
	if x, e := r.a.Get(id); !same(x, want) || e != error {
		r.Fatalf("Get(%d) = %+v, %d; want %+v, %d", id, x, e, want, error)
	}
}

// asks fails the test unless Of answers what it ought to.
func (r *rig) asks(page, pid int) {
	r.Helper()
	want, is, error := 0, false, api.ErrArg
	if in(page, 1<<20) && in(pid, 16) {
		want, is = r.of(page, pid)
		error = api.OK
	}
	if id, has, e := r.a.Of(page, pid); id != want || has != is || e != error {
		r.Fatalf("Of(%d, %d) = %d, %v, %d; want %d, %v, %d", page, pid, id, has, e, want, is, error)
	}
}

// pages are those that there are records of, and some others.
func (r *rig) pages() []int {
	l := []int{0, 1, 1<<20 - 1}
	for _, k := range r.row {
		l = append(l, k.x.Page, max(k.x.Page-1, 0), min(k.x.Page+1, 1<<20-1))
	}
	slices.Sort(l)
	return slices.Compact(l)
}

// holds fails the test unless all that is told, of records, of the slab, of the core, is as it ought to be.
func (r *rig) holds() {
	r.Helper()
	if n := r.a.Count(); n != len(r.row) {
		r.Fatalf("Count() = %d; want %d", n, len(r.row))
	}
	last := -1
	for _, k := range r.row {
		last = k.id
	}
	for id := -1; id <= last+2; id++ {
		r.gets(id)
	}
	for _, page := range r.pages() {
		for pid := range 16 {
			r.asks(page, pid)
		}
	}
	if l, want := r.s.Held(), r.mine.Held(); !slices.Equal(l, want) {
		r.Fatalf("the slab holds %v; want %v", l, want)
	}
	r.paid()
	if !slices.Equal(r.h.Lines(), r.own.Lines()) {
		r.Fatalf("the last-level cache holds %v; want %v", r.h.Lines(), r.own.Lines())
	}
	if len(r.h.All()) > 0 || len(r.h.Used()) > 0 {
		r.Fatalf("there are translations %v, slots %v", r.h.All(), r.h.Used())
	}
}

// calm empties L1, so that the next touch of anything is not as cheap as can be.
func (r *rig) calm() {
	r.h.Leave()
	r.own.Leave()
}

// fill makes records of a process, of the pages from 0 on, till there is no room, and one more that is refused.
func (r *rig) fill(pid int) {
	r.Helper()
	for page := 0; ; page++ {
		n := len(r.row)
		r.make(page, pid)
		if len(r.row) == n {
			return
		}
	}
}

// none is records that New did not make.
func none() []*anon.Anons { return []*anon.Anons{nil, {}, new(anon.Anons)} }

// far are numbers that are far outside; some of them are small ones, but for bits that a narrower number would lose.
func far() []int {
	l := []int{-1, -2, -3, -16, -256, math.MaxInt, math.MaxInt - 1, math.MinInt, math.MinInt + 1}
	for shift := 20; shift < 63; shift++ {
		l = append(l, 1<<shift, 1<<shift+1, -1<<shift, 1-1<<shift, -1-1<<shift)
	}
	return l
}

func wrongPages() []int { return append(far(), 1<<20, 1<<20+1, 1<<20+7, 1<<21) }

func wrongPids() []int { return append(far(), 16, 17, 18, 32, 256, 65536) }

func wrongFrames() []int { return append(far(), 4096, 4097, 8192, 65536) }

func wrongSlots() []int { return append(far(), 1024, 1025, 2048, 4095, 4096, 65536) }

// P20.1

func TestP20_1ErrorNumbers(t *testing.T) {
	for i, x := range [][2]api.Errno{{api.ErrNil, 1}, {api.ErrArg, 2}, {api.ErrNoMem, 4}, {api.ErrBusy, 171}, {api.ErrAnon, 200}, {api.ErrProc, 220}} {
		if x[0] != x[1] {
			t.Errorf("error %d is %d; want %d", i, x[0], x[1])
		}
	}
}

func TestP20_1New(t *testing.T) {
	each(func(c api.Config, p int) { made(t, c, p).holds() })
}

func TestP20_1NoHardware(t *testing.T) {
	h, s := hardware(t, usual(), 0, api.UsePage)
	cores := []*core.Core{nil, {}, new(core.Core), h}
	slabs := []*slab.Slab{nil, {}, new(slab.Slab), s}
	for i, h := range cores {
		for j, s := range slabs {
			if i == 3 && j == 3 {
				continue
			}
			if a, e := anon.New(h, s); a != nil || e != api.ErrNil {
				t.Errorf("core %d, slab %d: New = %v, %d; want nil, ErrNil", i, j, a, e)
			}
		}
	}
	if n, _ := h.Settle(); n != 0 || len(s.Held()) > 0 {
		t.Errorf("%d cycles were spent, the slab holds %v; want none", n, s.Held())
	}
}

// To make records changes neither what the core nor what the slab has, whatever that is; not even with the error of the other one. Where no image is taken, the slab has memory's first bytes, too.
func TestP20_1NewChangesNothing(t *testing.T) {
	h, s := hardware(t, usual(), 0, api.UsePage)
	newChangesNothing(t, h, s)
	h, _, s = bare(t, usual(), 0, api.UsePage)
	newChangesNothing(t, h, s)
}

func newChangesNothing(t *testing.T, h *core.Core, s *slab.Slab) {
	t.Helper()
	for range 5 {
		s.Take()
	}
	h.Touch(s.Held()...)
	h.Charge(7)
	held, lines := s.Held(), h.Lines()
	for _, core := range []*core.Core{h, nil, h} {
		for _, slab := range []*slab.Slab{s, {}, s} {
			a, e := anon.New(core, slab)
			if e == api.OK && (a == nil || a.Count() != 0) {
				t.Errorf("New = %v", a)
			}
		}
	}
	n, _ := h.Settle()
	if n != 57 || !slices.Equal(s.Held(), held) || !slices.Equal(h.Lines(), lines) {
		t.Errorf("%d cycles were spent, %v held, %v in the cache; want 57, %v, %v", n, s.Held(), h.Lines(), held, lines)
	}
}

// A slab of any use will do: it is the caller's business.
func TestP20_1AnyUse(t *testing.T) {
	for _, use := range []uint8{api.UseSpace, api.UseRegion, api.UsePage} {
		h, s := hardware(t, usual(), 0, use)
		a, e := anon.New(h, s)
		if a == nil || e != api.OK {
			t.Fatalf("use %d: New = %v, %d", use, a, e)
		}
		for id := range 3 {
			if got, e := a.Make(id, 0); got != id || e != api.OK || len(s.Held()) != id+1 {
				t.Errorf("use %d: Make = %d, %d; %v are held", use, got, e, s.Held())
			}
		}
	}
}

func TestP20_1NoRecords(t *testing.T) {
	numbers := []int{0, 1, 5, -1, 16, 4096, 1 << 20, math.MaxInt, math.MinInt}
	for i, a := range none() {
		if n := a.Count(); n != 0 {
			t.Errorf("records %d: Count() = %d; want 0", i, n)
		}
		for _, x := range numbers {
			for _, y := range numbers {
				asNone(t, a, x, y)
			}
		}
		if n := a.Count(); n != 0 {
			t.Errorf("records %d: Count() = %d; want 0", i, n)
		}
	}
}

// asNone fails the test unless all calls of records that are none say so.
func asNone(t *testing.T, a *anon.Anons, x, y int) {
	t.Helper()
	id, e := a.Make(x, y)
	n, f := a.Leave(x, y)
	if id != 0 || e != api.ErrNil || n != 0 || f != api.ErrNil {
		t.Errorf("Make(%d, %d) = %d, %d, Leave = %d, %d; want 0, ErrNil", x, y, id, e, n, f)
	}
	if e, f, g := a.Share(x, y), a.Frame(x, y), a.Slot(x, y); e != api.ErrNil || f != api.ErrNil || g != api.ErrNil {
		t.Errorf("Share, Frame, Slot(%d, %d) = %d, %d, %d; want ErrNil", x, y, e, f, g)
	}
	if got, e := a.Get(x); !same(got, api.Anon{}) || e != api.ErrNil {
		t.Errorf("Get(%d) = %+v, %d; want nothing, ErrNil", x, got, e)
	}
	if id, is, e := a.Of(x, y); id != 0 || is || e != api.ErrNil {
		t.Errorf("Of(%d, %d) = %d, %v, %d; want 0, false, ErrNil", x, y, id, is, e)
	}
}

// some is records with the numbers 0, 2 and 3; there is no 1.
func some(t *testing.T) *rig {
	t.Helper()
	r := made(t, usual(), 0)
	r.make(0, 0)
	r.make(0, 2)
	r.make(8, 1)
	r.make(8, 15)
	r.share(0, 9)
	r.frame(2, 5)
	r.slot(3, 6)
	r.leave(1, 2)
	r.holds()
	return r
}

// A number that no record has is told ahead of all that is wrong with the other argument.
func TestP20_1NoSuchRecord(t *testing.T) {
	r := some(t)
	for _, id := range append(far(), 1, 4, 5, 16, 256, 257, 258, 65536, 65538) {
		r.gets(id)
		for _, x := range []int{0, 1, 9, 15, 16, -1, 1023, 1024, 4095, 4096, math.MaxInt, math.MinInt} {
			r.share(id, x)
			r.leave(id, x)
			r.frame(id, x)
			r.slot(id, x)
		}
	}
	r.holds()
}

// Each of these is wrong by itself, whatever the record is.
func TestP20_1WrongNumbers(t *testing.T) {
	r := some(t)
	for _, id := range []int{0, 2, 3} {
		for _, pid := range wrongPids() {
			r.share(id, pid)
			r.leave(id, pid)
		}
		for _, frame := range wrongFrames() {
			r.frame(id, frame)
		}
		for _, slot := range wrongSlots() {
			r.slot(id, slot)
		}
	}
	for _, page := range []int{0, 1, 8, 1<<20 - 1} {
		for _, pid := range wrongPids() {
			r.make(page, pid)
			r.asks(page, pid)
		}
	}
	for _, page := range wrongPages() {
		for _, pid := range []int{0, 1, 15, 16, -1, math.MaxInt} {
			r.make(page, pid)
			r.asks(page, pid)
		}
	}
	r.holds()
}

// What is wrong with the arguments is told ahead of how things stand: no room here, and all processes share.
func TestP20_1WrongNumbersAheadOfTheRest(t *testing.T) {
	r := made(t, usual(), 0)
	r.fill(0)
	for pid := range 16 {
		r.share(0, pid)
	}
	for _, pid := range wrongPids() {
		r.make(0, pid)
		r.make(100, pid)
		r.share(0, pid)
		r.leave(0, pid)
	}
	for _, page := range wrongPages() {
		r.make(page, 0)
	}
	r.holds()
}

// P20.2

func TestP20_2Examples(t *testing.T) {
	r := made(t, usual(), 0)
	told := func(want ...any) {
		t.Helper()
		for i := 0; i < len(want); i += 2 {
			if want[i] != want[i+1] {
				t.Errorf("answer %d: %v; want %v", i/2, want[i], want[i+1])
			}
		}
	}
	get := func(frame, slot int) {
		t.Helper()
		x, e := r.a.Get(0)
		if !same(x, api.Anon{Page: 7, Pids: []int{0, 2}, Frame: frame, Slot: slot}) || e != api.OK {
			t.Errorf("Get(0) = %+v, %d", x, e)
		}
	}
	id, e := r.a.Make(7, 0)
	other, f := r.a.Make(7, 1)
	again, g := r.a.Make(7, 0)
	told(id, 0, e, api.OK, other, 1, f, api.OK, again, 0, g, api.ErrBusy)
	told(r.a.Share(0, 1), api.ErrBusy, r.a.Share(0, 2), api.OK, r.a.Share(5, 2), api.ErrAnon)
	told(r.a.Frame(0, 9), api.OK)
	get(9, -1)
	told(r.a.Slot(0, 3), api.OK)
	get(-1, 3)
	n, e := r.a.Leave(0, 0)
	none, f := r.a.Leave(0, 0)
	told(n, 1, e, api.OK, none, 0, f, api.ErrProc)
	id, is, e := r.a.Of(7, 2)
	told(id, 0, is, true, e, api.OK)
	n, e = r.a.Leave(0, 2)
	id, is, f = r.a.Of(7, 2)
	told(n, 0, e, api.OK, id, 0, is, false, f, api.OK)
	id, e = r.a.Make(8, 0)
	told(id, 0, e, api.OK, r.a.Count(), 2)
}

func TestP20_2Makes(t *testing.T) {
	each(func(c api.Config, p int) {
		for _, page := range []int{0, 1, 2, 31, 32, 1 << 19, 1<<20 - 2, 1<<20 - 1} {
			r := made(t, c, p)
			for pid := range 16 {
				r.make(page, pid)
				r.holds()
			}
		}
	})
}

// Each set of 7 records that may have gone is tried: those that are made then have the least numbers.
func TestP20_2TheLeastNumber(t *testing.T) {
	for gone := range 1 << 7 {
		r := made(t, usual(), 0)
		for id := range 7 {
			r.make(id, id)
		}
		for id := range 7 {
			if gone>>id&1 == 1 {
				r.leave(id, id)
			}
		}
		r.holds()
		for range 9 {
			r.make(9, len(r.row))
		}
		r.holds()
	}
}

// A number is not that of the object: they come back in other rows.
func TestP20_2NumbersAreNotPlaces(t *testing.T) {
	r := made(t, odd(), 2)
	for page := range 40 {
		r.make(page, 3)
	}
	for _, id := range []int{5, 30, 17, 2, 39} {
		r.leave(id, 3)
	}
	taken, e := r.s.Take()
	other, f := r.mine.Take()
	if taken != other || e != api.OK || f != api.OK {
		t.Fatalf("Take = %d, %d and %d, %d", taken, e, other, f)
	}
	for page := range 6 {
		r.make(page, 4)
		r.calm()
	}
	r.holds()
}

func TestP20_2Busy(t *testing.T) {
	r := made(t, usual(), 0)
	for pid := range 8 {
		r.make(7, pid)
	}
	for pid := range 8 {
		r.share(pid, pid+8)
	}
	for pid := range 16 {
		r.make(7, pid)
		r.make(7, pid)
	}
	r.holds()
	for pid := range 16 {
		r.leave(pid%8, pid)
		r.make(7, pid)
		r.make(7, pid)
	}
	r.holds()
}

// A process that has a record of a page is busy for that page alone, and no other process is.
func TestP20_2NotBusy(t *testing.T) {
	r := made(t, odd(), 1)
	pages := []int{0, 1, 2, 255, 256, 257, 65535, 65536, 65536 + 7, 7, 1<<20 - 1}
	for _, page := range pages {
		r.make(page, 0)
	}
	for i, page := range pages {
		if i%2 == 0 {
			r.make(page, 15)
		}
	}
	for _, page := range pages {
		r.make(page, 1)
		r.make(page, 15)
		r.make(page, 0)
	}
	r.holds()
}

func TestP20_2NoMemory(t *testing.T) {
	each(func(c api.Config, p int) {
		r := made(t, c, p)
		r.fill(0)
		if n := len(r.row); n != 16*c.Parts[p].Records {
			t.Fatalf("partition %d: %d records; want 16 in each of %d frames", p, n, c.Parts[p].Records)
		}
		r.holds()
		r.calm()
		for pid := range 16 {
			r.make(1, pid)
			r.make(1<<19, pid)
		}
		r.holds()
		r.leave(3, 0)
		r.make(1<<19, 9)
		r.make(1<<19, 8)
		r.holds()
	})
}

// Who has a record of the page is told so though there is no room.
func TestP20_2BusyAheadOfNoMemory(t *testing.T) {
	r := made(t, usual(), 1)
	r.fill(4)
	r.share(15, 5)
	if _, e := r.a.Make(15, 4); e != api.ErrBusy {
		t.Errorf("Make(15, 4): %d; want ErrBusy", e)
	}
	if _, e := r.a.Make(15, 5); e != api.ErrBusy {
		t.Errorf("Make(15, 5): %d; want ErrBusy", e)
	}
	if _, e := r.a.Make(15, 6); e != api.ErrNoMem {
		t.Errorf("Make(15, 6): %d; want ErrNoMem", e)
	}
	r.holds()
}

// The records' room is the slab's: others may take some of it, and give it back.
func TestP20_2OthersTake(t *testing.T) {
	r := made(t, usual(), 0)
	for range 5 {
		r.s.Take()
		r.mine.Take()
	}
	r.fill(0)
	if len(r.row) != 11 {
		t.Fatalf("%d records; want 11", len(r.row))
	}
	at := r.s.Held()[2]
	r.s.Give(at)
	r.mine.Give(at)
	r.calm()
	r.make(100, 3)
	r.make(101, 3)
	r.holds()
}

// costs fails the test unless a call costs so much.
func (r *rig) costs(want uint64, what string, do func()) {
	r.Helper()
	r.h.Settle()
	do()
	if n, _ := r.h.Settle(); n != want {
		r.Fatalf("%s cost %d; want %d", what, n, want)
	}
}

// A record is touched once when it is made: the first time that costs a miss, then a hit of the last-level cache, if L1 was emptied, of L1 else.
func TestP20_2Touches(t *testing.T) {
	r := made(t, usual(), 0)
	r.costs(10, "Make(7, 0)", func() { r.a.Make(7, 0) })
	r.costs(10, "Make(8, 0)", func() { r.a.Make(8, 0) })
	r.costs(0, "Make(8, 0), busy,", func() { r.a.Make(8, 0) })
	r.costs(1, "Leave(1, 0)", func() { r.a.Leave(1, 0) })
	r.costs(1, "Make(9, 0)", func() { r.a.Make(9, 0) })
	r.a.Leave(1, 0)
	r.h.Leave()
	r.costs(4, "Make(9, 1)", func() { r.a.Make(9, 1) })
	r.costs(0, "Make(9, 16)", func() { r.a.Make(9, 16) })
	for page := range 14 {
		r.a.Make(page, 5)
	}
	r.costs(0, "Make(14, 5), without room,", func() { r.a.Make(14, 5) })
}

// P20.3

// In whatever order processes come and go, a record's pids rise: all orders of 5 are tried.
func TestP20_3PidsRise(t *testing.T) {
	var try func(order, left []int)
	try = func(order, left []int) {
		if len(left) == 0 {
			r := made(t, usual(), 1)
			r.make(6, order[0])
			for _, pid := range order[1:] {
				r.share(0, pid)
				r.gets(0)
			}
			r.holds()
			return
		}
		for i, pid := range left {
			try(append(slices.Clone(order), pid), slices.Delete(slices.Clone(left), i, i+1))
		}
	}
	try(nil, []int{0, 3, 9, 10, 15})
}

func TestP20_3AllProcesses(t *testing.T) {
	for first := range 16 {
		for _, by := range []int{1, 3, 5, 15} {
			r := made(t, usual(), 0)
			r.make(1<<20-1, first)
			for i := range 15 {
				r.share(0, (first+(i+1)*by)%16)
				r.holds()
			}
			for pid := range 16 {
				r.share(0, pid)
			}
			r.holds()
		}
	}
}

// A process is busy if it has this record, or another one of the page, made for it or shared; not if it has one of another page.
func TestP20_3Busy(t *testing.T) {
	r := made(t, usual(), 0)
	r.make(7, 0)
	r.make(7, 1)
	r.make(8, 2)
	r.share(1, 3)
	r.calm()
	for id := range 3 {
		for pid := range 4 {
			r.share(id, pid)
		}
	}
	r.holds()
	r.leave(1, 3)
	r.share(0, 3)
	r.share(1, 3)
	r.holds()
}

func TestP20_3Touches(t *testing.T) {
	r := made(t, usual(), 0)
	r.a.Make(7, 0)
	r.a.Make(7, 1)
	r.h.Leave()
	r.costs(0, "Share(0, 1), busy,", func() { r.a.Share(0, 1) })
	r.costs(0, "Share(0, 16)", func() { r.a.Share(0, 16) })
	r.costs(0, "Share(2, 2)", func() { r.a.Share(2, 2) })
	r.costs(4, "Share(0, 2)", func() { r.a.Share(0, 2) })
	r.costs(1, "Share(0, 3)", func() { r.a.Share(0, 3) })
	r.costs(4, "Share(1, 4)", func() { r.a.Share(1, 4) })
}

// To share takes no object, so that it needs no room.
func TestP20_3WithoutRoom(t *testing.T) {
	r := made(t, usual(), 1)
	r.fill(0)
	for pid := 1; pid < 16; pid++ {
		for id := range 16 {
			r.share(id, pid)
		}
	}
	r.holds()
}

// Where the bytes are stays as it was, whoever shares or leaves.
func TestP20_3WhereTheBytesAre(t *testing.T) {
	r := made(t, usual(), 0)
	for id := range 3 {
		r.make(7, id)
	}
	r.frame(0, 0)
	r.slot(1, 0)
	for id := range 3 {
		r.share(id, id+3)
		r.holds()
		r.leave(id, id)
		r.holds()
		r.share(id, id)
		r.holds()
	}
}

// P20.4

// Each set of 5 processes, left in both directions, till the record is gone.
func TestP20_4Leaves(t *testing.T) {
	pids := []int{0, 1, 7, 14, 15}
	for set := 1; set < 1<<len(pids); set++ {
		for _, back := range []bool{false, true} {
			r := made(t, usual(), 0)
			r.make(7, 8)
			r.make(3, 0)
			for i, pid := range pids {
				if set>>i&1 == 1 {
					r.share(0, pid)
				}
			}
			r.leave(0, 8)
			if back {
				slices.Reverse(pids)
			}
			for _, pid := range pids {
				r.calm()
				r.leave(0, pid)
				r.holds()
			}
			for _, pid := range pids {
				r.leave(0, pid)
			}
			r.holds()
		}
	}
}

// Whom a record lacks is told so, whoever has other records; nothing is touched.
func TestP20_4NotThisProcess(t *testing.T) {
	r := some(t)
	for _, id := range []int{0, 2, 3} {
		k := r.find(id)
		for pid := range 16 {
			if !k.pids[pid] {
				r.calm()
				r.leave(id, pid)
			}
		}
	}
	r.holds()
}

// With its last process a record is gone: its number is none, its object is free, its page may be made anew, where it was is forgotten.
func TestP20_4Gone(t *testing.T) {
	r := made(t, usual(), 0)
	for id := range 3 {
		r.make(7, id)
		r.frame(id, id+1)
	}
	r.slot(1, 5)
	held := r.s.Held()
	r.leave(1, 1)
	if l := r.s.Held(); !slices.Equal(l, []uint64{held[0], held[2]}) {
		t.Fatalf("%v are held; want the first and the last of %v", l, held)
	}
	r.gets(1)
	r.share(1, 1)
	r.leave(1, 1)
	r.frame(1, 1)
	r.slot(1, 1)
	r.asks(7, 1)
	r.holds()
	r.make(7, 1)
	r.holds()
	if l := r.s.Held(); !slices.Equal(l, held) {
		t.Fatalf("%v are held; want %v", l, held)
	}
}

func TestP20_4Touches(t *testing.T) {
	r := made(t, usual(), 0)
	r.a.Make(7, 0)
	r.a.Share(0, 1)
	r.a.Make(7, 2)
	r.h.Leave()
	r.costs(0, "Leave(0, 2), not its own,", func() { r.a.Leave(0, 2) })
	r.costs(0, "Leave(0, 16)", func() { r.a.Leave(0, 16) })
	r.costs(0, "Leave(2, 0)", func() { r.a.Leave(2, 0) })
	r.costs(4, "Leave(0, 0)", func() { r.a.Leave(0, 0) })
	r.costs(1, "Leave(0, 1), the last one's,", func() { r.a.Leave(0, 1) })
	r.costs(4, "Leave(1, 2), the last one's,", func() { r.a.Leave(1, 2) })
	r.costs(0, "Leave(1, 2), of none,", func() { r.a.Leave(1, 2) })
}

// The touch comes even with the frame's last record, whose frame goes back to the pool.
func TestP20_4TheLastOfItsFrame(t *testing.T) {
	h, q, s := bare(t, usual(), 0, api.UsePage)
	a, _ := anon.New(h, s)
	for round := range 5 {
		h.Leave()
		if id, e := a.Make(round, round); id != 0 || e != api.OK || q.Counts()[api.UsePage] != 1 {
			t.Fatalf("Make = %d, %d; the pool: %v", id, e, q.Counts())
		}
		h.Leave()
		h.Settle()
		if n, e := a.Leave(0, round); n != 0 || e != api.OK || q.Counts()[api.UsePage] != 0 {
			t.Fatalf("Leave = %d, %d; the pool: %v", n, e, q.Counts())
		}
		if n, _ := h.Settle(); n != 4 {
			t.Fatalf("%d cycles were spent; want 4", n)
		}
	}
}

// P20.5

func TestP20_5Frames(t *testing.T) {
	r := some(t)
	for frame := range 4096 {
		r.frame(frame%2*2, frame)
		r.gets(0)
		r.gets(2)
		r.gets(3)
	}
	r.holds()
}

func TestP20_5Slots(t *testing.T) {
	r := some(t)
	for slot := range 1024 {
		r.slot(slot%2*2, slot)
		r.gets(0)
		r.gets(2)
		r.gets(3)
	}
	r.holds()
}

// The one takes the other's place, and the last call holds: all rows of 4 calls are tried.
func TestP20_5TheLastCallHolds(t *testing.T) {
	for row := range 256 {
		r := made(t, usual(), 0)
		r.make(5, 5)
		for i := range 4 {
			switch row >> (2 * i) & 3 {
			case 0:
				r.frame(0, i)
			case 1:
				r.slot(0, i)
			case 2:
				r.frame(0, 4095)
			case 3:
				r.slot(0, 1023)
			}
			r.gets(0)
		}
		r.holds()
	}
}

// Nothing is touched, and what is refused leaves a record where it was.
func TestP20_5WhatIsRefused(t *testing.T) {
	for _, first := range []bool{true, false} {
		r := some(t)
		r.calm()
		if first {
			r.frame(0, 9)
		} else {
			r.slot(0, 9)
		}
		for _, x := range wrongFrames() {
			r.frame(0, x)
			r.gets(0)
		}
		for _, x := range wrongSlots() {
			r.slot(0, x)
			r.gets(0)
		}
		r.holds()
	}
}

// Whether several records tell of one frame, or one slot, is the caller's business.
func TestP20_5OneFrameForSeveral(t *testing.T) {
	r := some(t)
	for _, id := range []int{0, 2, 3} {
		r.frame(id, 8)
		r.holds()
	}
	for _, id := range []int{3, 2, 0} {
		r.slot(id, 8)
		r.holds()
	}
}

// P20.6

// What Get answers is new memory: to change it, its spare room, or the record, changes nothing of the other.
func TestP20_6GetIsNewMemory(t *testing.T) {
	r := made(t, usual(), 0)
	r.make(7, 3)
	for pid := range 16 {
		r.share(0, pid)
		x, _ := r.a.Get(0)
		y, _ := r.a.Get(0)
		was := slices.Clone(x.Pids)
		for i := range x.Pids {
			x.Pids[i] = -9
		}
		x.Pids = append(x.Pids, -9, -9, -9)
		spare := x.Pids[:cap(x.Pids)]
		for i := range spare {
			spare[i] = -9
		}
		if !slices.Equal(y.Pids, was) {
			t.Fatalf("Get answered %v, now that is %v", was, y.Pids)
		}
		r.gets(0)
		r.holds()
	}
}

func TestP20_6WhatWasAnsweredStays(t *testing.T) {
	r := made(t, usual(), 0)
	r.make(7, 3)
	for _, pid := range []int{9, 1, 6} {
		r.share(0, pid)
	}
	r.frame(0, 2)
	want := api.Anon{Page: 7, Pids: []int{1, 3, 6, 9}, Frame: 2, Slot: -1}
	x, _ := r.a.Get(0)
	r.slot(0, 1)
	for _, pid := range []int{3, 9, 1} {
		r.leave(0, pid)
	}
	r.share(0, 0)
	r.leave(0, 6)
	r.leave(0, 0)
	r.make(1, 15)
	if !same(x, want) {
		t.Errorf("Get answered %+v, now that is %+v", want, x)
	}
	r.holds()
}

// To ask changes and costs nothing, however often.
func TestP20_6AskingChangesNothing(t *testing.T) {
	r := some(t)
	r.calm()
	for range 3 {
		r.holds()
	}
	n, _ := r.h.Leave()
	if n != 0 {
		t.Errorf("to leave cost %d; want nothing, as nothing was touched", n)
	}
}

func TestP20_6Of(t *testing.T) {
	r := made(t, odd(), 2)
	pages := []int{0, 7, 8, 1 << 10, 1<<20 - 1}
	for i, page := range pages {
		for pid := range 16 {
			if (pid+i)%3 == 0 {
				r.make(page, pid)
			}
		}
	}
	r.holds()
	for i, page := range pages {
		for pid := range 16 {
			if id, is := r.of(page, (pid/3*3+3-i%3)%16); is && (pid+i)%3 == 1 {
				r.share(id, pid)
			}
		}
	}
	r.holds()
}

func TestP20_6Count(t *testing.T) {
	r := made(t, usual(), 0)
	for n := range 16 {
		if got := r.a.Count(); got != n {
			t.Fatalf("Count() = %d; want %d", got, n)
		}
		r.make(n%5, n)
		r.share(n, (n+1)%16)
	}
	for n := 16; n > 0; n-- {
		if got := r.a.Count(); got != n {
			t.Fatalf("Count() = %d; want %d", got, n)
		}
		for _, pid := range r.row[0].list().Pids {
			r.leave(r.row[0].id, pid)
		}
	}
	r.holds()
}

// P20.7

// wander calls by chance what there is to call, of few pages, so that processes meet; now and then something else is touched.
func (r *rig) wander(d *dice, pages, ids int) {
	r.Helper()
	page, pid, id := d.below(pages), d.below(17)-d.below(2), d.below(ids)-d.below(2)
	switch d.below(12) {
	case 0, 1, 2:
		r.make(page, pid)
	case 3, 4, 5:
		r.share(id, pid)
	case 6, 7:
		r.leave(id, pid)
	case 8:
		if k := r.find(id); k != nil {
			r.leave(id, k.list().Pids[0])
		}
	case 9:
		r.frame(id, d.below(4098)-1)
	case 10:
		r.slot(id, d.below(1026)-1)
	case 11:
		at := uint64(d.below(64 * 256))
		r.h.Touch(at)
		r.own.Touch(at)
	}
	if d.below(50) == 0 {
		r.calm()
	}
}

func TestP20_7ByChance(t *testing.T) {
	each(func(c api.Config, p int) {
		for seed := range 4 {
			r, d := made(t, c, p), dice(seed)
			for range 2000 {
				r.wander(&d, 4+6*seed, 16*c.Parts[p].Records+2)
				if n := len(r.s.Held()); n != r.a.Count() {
					t.Fatalf("%d records, %d objects", r.a.Count(), n)
				}
				if d.below(10) == 0 {
					r.holds()
				}
			}
			r.holds()
		}
	})
}

// As many records as there is room for in the greatest partition; some go, and come back.
func TestP20_7Many(t *testing.T) {
	r, d := made(t, greatest(), 0), dice(5)
	r.fill(2)
	if len(r.row) != 4800 || r.a.Count() != 4800 {
		t.Fatalf("%d records, Count() = %d; want 4800", len(r.row), r.a.Count())
	}
	for range 3000 {
		r.wander(&d, 5000, 4802)
	}
	if n := len(r.s.Held()); n != r.a.Count() {
		t.Fatalf("%d records, %d objects", r.a.Count(), n)
	}
	for id := range 4801 {
		r.gets(id)
	}
}

// When all have left, there is nothing any more, and the pool is as it was.
func TestP20_7AllLeave(t *testing.T) {
	r, d := made(t, odd(), 1), dice(77)
	for range 1000 {
		r.wander(&d, 40, 66)
	}
	for len(r.row) > 0 {
		k := r.row[d.below(len(r.row))]
		l := k.list().Pids
		r.leave(k.id, l[d.below(len(l))])
	}
	r.holds()
	if l := r.s.Held(); len(l) > 0 || r.a.Count() != 0 {
		t.Errorf("%v are held, Count() = %d; want none", l, r.a.Count())
	}
	r.make(3, 3)
	r.holds()
}

// What is told of a record hangs on the calls that named it: all others may be called, this one stays.
func TestP20_7OthersCallsChangeNothing(t *testing.T) {
	for _, slot := range []bool{false, true} {
		r, d := made(t, odd(), 2), dice(3)
		r.make(500, 3)
		r.make(7, 3)
		r.share(1, 8)
		r.frame(1, 77)
		if slot {
			r.slot(1, 77)
		}
		want, _ := r.a.Get(1)
		r.leave(0, 3)
		for range 3000 {
			page, pid, id := d.below(20), d.below(16), d.below(99)
			if id == 1 {
				continue
			}
			switch d.below(4) {
			case 0:
				r.make(page, pid)
			case 1:
				r.share(id, pid)
			case 2:
				r.leave(id, pid)
			case 3:
				r.frame(id, page)
				r.slot(id, pid)
				r.frame(id, pid)
			}
			if x, e := r.a.Get(1); !same(x, want) || e != api.OK {
				t.Fatalf("Get(1) = %+v, %d; want %+v", x, e, want)
			}
		}
		r.holds()
	}
}

// Two that stand on one slab have numbers of their own, and no object together.
func TestP20_7TwoOnOneSlab(t *testing.T) {
	h, s := hardware(t, usual(), 0, api.UsePage)
	a, e := anon.New(h, s)
	b, f := anon.New(h, s)
	if e != api.OK || f != api.OK {
		t.Fatalf("New: %d, %d", e, f)
	}
	for i := range 8 {
		for _, x := range []*anon.Anons{a, b} {
			if id, e := x.Make(7, i); id != i || e != api.OK {
				t.Fatalf("Make(7, %d) = %d, %d", i, id, e)
			}
		}
	}
	if _, e := a.Make(8, 0); e != api.ErrNoMem || len(s.Held()) != 16 {
		t.Fatalf("Make(8, 0): %d, %d are held; want ErrNoMem, 16", e, len(s.Held()))
	}
	a.Leave(3, 3)
	if x, e := b.Get(3); x.Page != 7 || e != api.OK || a.Count() != 7 || b.Count() != 8 || len(s.Held()) != 15 {
		t.Errorf("Get(3) = %+v, %d; %d and %d records, %d held", x, e, a.Count(), b.Count(), len(s.Held()))
	}
	if id, e := b.Make(8, 0); id != 8 || e != api.OK {
		t.Errorf("Make(8, 0) = %d, %d; want 8", id, e)
	}
}

// Records touch lines alone: memory's bytes stay.
func TestP20_7BytesStay(t *testing.T) {
	r, d := made(t, usual(), 0), dice(1)
	for frame := range 64 {
		r.h.Memory.Store(uint64(frame)*256+uint64(frame), 8, uint64(frame)*0x0101010101010101)
	}
	var was [][]byte
	for frame := range 64 {
		b, _ := r.h.Page(frame)
		was = append(was, b)
	}
	for range 500 {
		r.wander(&d, 9, 17)
	}
	for frame := range 64 {
		if b, _ := r.h.Page(frame); !bytes.Equal(b, was[frame]) {
			t.Fatalf("the bytes of the frame %d have changed", frame)
		}
	}
}

// A core that lacks the slab's frames, and who else gives the slab's objects back, are the caller's business, but nothing panics, and all ends (R1).
func TestP20_7ForeignHardware(t *testing.T) {
	h, _ := hardware(t, usual(), 0, api.UsePage)
	_, s := hardware(t, greatest(), 0, api.UsePage)
	a, e := anon.New(h, s)
	if e != api.OK {
		t.Fatalf("New: %d", e)
	}
	d := dice(9)
	for range 5000 {
		page, pid, id := d.below(500), d.below(16), d.below(500)
		a.Make(page, pid)
		a.Share(id, pid)
		a.Leave(id, pid)
		a.Frame(id, page)
		if l := s.Held(); d.below(40) == 0 && len(l) > 0 {
			s.Give(l[d.below(len(l))])
		}
		if x, e := a.Get(id); e == api.OK && (x.Page < 0 || len(x.Pids) == 0) {
			t.Fatalf("Get(%d) = %+v", id, x)
		}
	}
}
