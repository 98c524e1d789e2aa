package slab_test

import (
	"math"
	"slices"
	"testing"

	"cofferdam/api"
	"cofferdam/pool"
	"cofferdam/slab"
)

// usual is the configuration of the document's examples.
func usual() api.Config {
	return api.Config{
		Frames: 64, Colours: 4, Ways: 2, L1Sets: 4, L1Ways: 2, TLB: 4,
		Costs: api.Costs{L1: 1, LLC: 4, Miss: 10, Fault: 5, Step: 1, Disk: 20},
		Slice: 4000, Pad: 20, Turns: []int{0, 1},
		Parts: []api.Part{
			{Colours: []int{0, 1}, Order: 1, User: 4, Tables: 8, Spaces: 1, Regions: 1, Records: 1, Slots: 3},
			{Colours: []int{2}, User: 2, Tables: 6, Spaces: 1, Regions: 1, Records: 1, Slots: 3},
		},
	}
}

// odd has 13 frames of each colour: the least free block is the last one, so that new frames do not rise.
func odd() api.Config {
	c := usual()
	c.Frames, c.Colours, c.Slice = 104, 8, 1<<22
	c.Parts = []api.Part{
		{Colours: []int{3}, User: 2, Tables: 4, Spaces: 2, Regions: 2, Records: 2, Slots: 9},
		{Colours: []int{0, 2, 7}, Order: 3, User: 5, Tables: 8, Spaces: 6, Regions: 5, Records: 4, Slots: 5},
		{Colours: []int{1, 6}, Order: 2, User: 3, Tables: 5, Spaces: 3, Regions: 3, Records: 6, Slots: 1},
	}
	c.Turns = []int{2, 0, 1}
	return c
}

// greatest has one partition with all frames that there may be, none to spare.
func greatest() api.Config {
	c := usual()
	c.Frames, c.Colours, c.Slice = 4096, 16, 1<<22
	c.Turns = []int{0}
	c.Parts = []api.Part{{User: 2000, Tables: 1000, Spaces: 488, Regions: 300, Records: 300, Order: 3, Slots: 1024}}
	for i := range 16 {
		c.Parts[0].Colours = append(c.Parts[0].Colours, i)
	}
	return c
}

// each calls a function with each partition of the smaller configurations, and each use of slabs.
func each(do func(c api.Config, p int, use uint8)) {
	for _, c := range []api.Config{usual(), odd()} {
		for p := range c.Parts {
			for _, use := range uses() {
				do(c, p, use)
			}
		}
	}
}

// uses are those that slabs have.
func uses() []uint8 { return []uint8{api.UseSpace, api.UseRegion, api.UsePage} }

func size(use uint8) uint64 {
	return map[uint8]uint64{api.UseSpace: 64, api.UseRegion: 32, api.UsePage: 16}[use]
}

func places(use uint8) int {
	return map[uint8]int{api.UseSpace: 4, api.UseRegion: 8, api.UsePage: 16}[use]
}

func quota(part api.Part, use uint8) int {
	return map[uint8]int{api.UseSpace: part.Spaces, api.UseRegion: part.Regions, api.UsePage: part.Records}[use]
}

// none is slabs that no call has made.
func none() []*slab.Slab { return []*slab.Slab{nil, {}, new(slab.Slab)} }

// far is addresses that are no object's, wherever objects are; some of them would be, if they were cut.
func far() []uint64 {
	return []uint64{1 << 20, 1<<20 + 256, 1<<20 + 320, 1 << 28, 1<<32 + 256, 1 << 40, 1<<63 + 256, 1 << 63, math.MaxUint64, math.MaxUint64 - 255, math.MaxUint64 - 15}
}

// fresh is a pool whose image is taken.
func fresh(t *testing.T, c api.Config, p int) *pool.Pool {
	t.Helper()
	got, e := pool.New(c, p)
	if e != api.OK {
		t.Fatalf("pool.New(%+v, %d): %d", c, p, e)
	}
	if _, e := got.Image(); e != api.OK {
		t.Fatalf("Image: %d", e)
	}
	return got
}

func made(t *testing.T, p *pool.Pool, use uint8) *slab.Slab {
	t.Helper()
	s, e := slab.New(p, use)
	if s == nil || e != api.OK {
		t.Fatalf("New(.., %d) = %v, %d", use, s, e)
	}
	return s
}

func takes(t *testing.T, s *slab.Slab, want ...uint64) {
	t.Helper()
	for i, w := range want {
		if at, e := s.Take(); at != w || e != api.OK {
			t.Fatalf("the %dth Take = %d, %d, want %d", i, at, e, w)
		}
	}
}

func takesNone(t *testing.T, s *slab.Slab, want api.Errno) {
	t.Helper()
	if at, e := s.Take(); at != 0 || e != want {
		t.Fatalf("Take = %d, %d, want the error %d", at, e, want)
	}
}

func gives(t *testing.T, s *slab.Slab, want api.Errno, l ...uint64) {
	t.Helper()
	for _, at := range l {
		if e := s.Give(at); e != want {
			t.Fatalf("Give(%d) = %d, want %d", at, e, want)
		}
	}
}

func holds(t *testing.T, s *slab.Slab, want ...uint64) {
	t.Helper()
	if l := s.Held(); !slices.Equal(l, want) {
		t.Fatalf("Held = %v, want %v", l, want)
	}
}

// samePool fails the test unless two pools tell the same.
func samePool(t *testing.T, a, b *pool.Pool) {
	t.Helper()
	if a.Counts() != b.Counts() || !slices.Equal(a.Free(), b.Free()) || !slices.Equal(a.Owned(), b.Owned()) || a.Whole() != b.Whole() {
		t.Fatalf("a pool has %v, %v, %v; want %v, %v, %v", a.Counts(), a.Free(), a.Owned(), b.Counts(), b.Free(), b.Owned())
	}
}

// stays fails the test unless what is done changes nothing that a slab and its pool tell.
func stays(t *testing.T, p *pool.Pool, s *slab.Slab, do func()) {
	t.Helper()
	n, l, o, h := p.Counts(), p.Free(), p.Owned(), s.Held()
	do()
	holds(t, s, h...)
	if p.Counts() != n || !slices.Equal(p.Free(), l) || !slices.Equal(p.Owned(), o) {
		t.Fatalf("the pool became %v, %v, %v; was %v, %v, %v", p.Counts(), p.Free(), p.Owned(), n, l, o)
	}
}

// fill takes all that there is, and tells it in that order.
func fill(t *testing.T, s *slab.Slab) []uint64 {
	t.Helper()
	var l []uint64
	for range 1 << 16 {
		at, e := s.Take()
		if e == api.ErrNoMem {
			return l
		}
		if e != api.OK {
			t.Fatalf("Take = %d, %d", at, e)
		}
		l = append(l, at)
	}
	t.Fatal("Take has no end")
	return nil
}

// run is n addresses of places of a frame, from its first one on.
func run(frame int, use uint8, n int) []uint64 {
	var l []uint64
	for i := range n {
		l = append(l, uint64(frame)*256+uint64(i)*size(use))
	}
	return l
}

// dice are numbers that look like chance, the same ones in each run.
type dice uint64

func (d *dice) below(n int) int {
	*d = *d*6364136223846793005 + 1442695040888963407
	return int(uint64(*d) >> 33 % uint64(n))
}

// plain is a slab by the document's words: it knows the addresses that are taken, and reckons its frames from these each time anew.
type plain struct {
	pool  *pool.Pool
	use   uint8
	taken []uint64 // rising
}

// frames is the frames that have an object, rising.
func (m *plain) frames() []int {
	var l []int
	for _, at := range m.taken {
		l = append(l, int(at/256))
	}
	return slices.Compact(l)
}

func (m *plain) take() (uint64, api.Errno) {
	for _, f := range m.frames() {
		for _, at := range run(f, m.use, places(m.use)) {
			if i, is := slices.BinarySearch(m.taken, at); !is {
				m.taken = slices.Insert(m.taken, i, at)
				return at, api.OK
			}
		}
	}
	f, e := m.pool.Take(m.use)
	if e != api.OK {
		return 0, e
	}
	m.taken = append(m.taken, uint64(f)*256)
	slices.Sort(m.taken)
	return uint64(f) * 256, api.OK
}

func (m *plain) give(at uint64) api.Errno {
	i, is := slices.BinarySearch(m.taken, at)
	if !is {
		return api.ErrTaken
	}
	m.taken = slices.Delete(m.taken, i, i+1)
	if f := int(at / 256); !slices.Contains(m.frames(), f) {
		m.pool.Give(f)
	}
	return api.OK
}

// wander takes or gives by chance, of a slab and of the plain one, now and then what can't be given.
func wander(t *testing.T, s *slab.Slab, m *plain, d *dice, more int) {
	t.Helper()
	at := uint64(d.below(1 << 15))
	switch k := d.below(20); {
	case k < more:
		got, e := s.Take()
		if want, w := m.take(); got != want || e != w {
			t.Fatalf("Take = %d, %d, want %d, %d", got, e, want, w)
		}
		return
	case k < 19 && len(m.taken) > 0:
		at = m.taken[d.below(len(m.taken))]
	}
	e := s.Give(at)
	if w := m.give(at); e != w {
		t.Fatalf("Give(%d) = %d, want %d", at, e, w)
	}
}

// P13.1

func TestP13_1Examples(t *testing.T) {
	p := fresh(t, usual(), 0)
	if s, e := slab.New(nil, api.UseSpace); s != nil || e != api.ErrNil {
		t.Errorf("New(nil, UseSpace) = %v, %d", s, e)
	}
	if s, e := slab.New(p, api.UseUser); s != nil || e != api.ErrArg {
		t.Errorf("New(P, UseUser) = %v, %d", s, e)
	}
	s := made(t, p, api.UseSpace)
	takes(t, s, 256, 320, 384, 448)
	takesNone(t, s, api.ErrNoMem)
	gives(t, s, api.OK, 320)
	gives(t, s, api.ErrTaken, 320, 321)
	takes(t, s, 320)
	holds(t, s, 256, 320, 384, 448)
	gives(t, s, api.OK, 256, 320, 384, 448)
	if !p.Whole() {
		t.Error("the pool is not whole")
	}
}

// A pool that is none is refused ahead of a use that may not be.
func TestP13_1PoolsThatAreNone(t *testing.T) {
	for _, p := range []*pool.Pool{nil, {}, new(pool.Pool)} {
		for use := range 256 {
			if s, e := slab.New(p, uint8(use)); s != nil || e != api.ErrNil {
				t.Fatalf("New(none, %d) = %v, %d", use, s, e)
			}
		}
	}
}

// Just three uses have objects; and New itself takes nothing.
func TestP13_1EachUse(t *testing.T) {
	p := fresh(t, usual(), 0)
	for use := range 256 {
		s, e := slab.New(p, uint8(use))
		if is := slices.Contains(uses(), uint8(use)); is && (s == nil || e != api.OK) || !is && (s != nil || e != api.ErrArg) {
			t.Fatalf("New(P, %d) = %v, %d", use, s, e)
		}
		holds(t, s)
	}
	samePool(t, p, fresh(t, usual(), 0))
}

// A pool with nothing left for the use, or without its image, is a pool all the same.
func TestP13_1WhateverThePoolHas(t *testing.T) {
	for _, use := range uses() {
		p, _ := pool.New(usual(), 0)
		holds(t, made(t, p, use))
		f, _ := p.Take(use)
		s := made(t, p, use)
		takesNone(t, s, api.ErrNoMem)
		holds(t, s)
		p.Give(f)
		takes(t, s, run(f, use, places(use))...)
	}
}

func TestP13_1SlabsThatAreNone(t *testing.T) {
	for _, s := range none() {
		takesNone(t, s, api.ErrNil)
		gives(t, s, api.ErrNil, 0, 256, 1)
		gives(t, s, api.ErrNil, far()...)
		holds(t, s)
	}
}

// A slab has the pool that was handed in, and takes from it for its own use.
func TestP13_1ThePoolIsKept(t *testing.T) {
	each(func(c api.Config, number int, use uint8) {
		p := fresh(t, c, number)
		before := p.Counts()
		at, e := made(t, p, use).Take()
		after := p.Counts()
		before[use]++
		before[api.UseFree]--
		if e != api.OK || after != before || !slices.Contains(p.Owned(), api.Owned{Frame: int(at / 256), Use: use}) {
			t.Fatalf("behind Take = %d, %d: %v, %v", at, e, after, p.Owned())
		}
	})
}

// P13.2

// A frame is filled from its first place to its last one; then the next one comes, if the quota has it.
func TestP13_2Fills(t *testing.T) {
	each(func(c api.Config, number int, use uint8) {
		p, q := fresh(t, c, number), fresh(t, c, number)
		s := made(t, p, use)
		for range quota(c.Parts[number], use) {
			f, e := q.Take(use)
			if e != api.OK {
				t.Fatal(e)
			}
			for _, at := range run(f, use, places(use)) {
				takes(t, s, at)
				samePool(t, p, q)
			}
		}
		for range 3 {
			stays(t, p, s, func() { takesNone(t, s, api.ErrNoMem) })
		}
	})
}

// The lowest place of those that are free, whichever came free first.
func TestP13_2TheLowestPlace(t *testing.T) {
	for _, use := range uses() {
		n := places(use)
		for a := range n {
			for b := range n {
				if a == b {
					continue
				}
				s := made(t, fresh(t, usual(), 0), use)
				l := run(1, use, n)
				takes(t, s, l...)
				gives(t, s, api.OK, l[a], l[b])
				takes(t, s, l[min(a, b)], l[max(a, b)])
				takesNone(t, s, api.ErrNoMem)
			}
		}
	}
}

// late is a pool of which a slab gets the frame 91 first, then the frame 3; and three frames that can be given back to it.
func late(t *testing.T) (*pool.Pool, []int) {
	t.Helper()
	p := fresh(t, odd(), 0)
	var ahead []int
	for range 3 {
		f, e := p.Take(api.UseTable)
		if e != api.OK {
			t.Fatal(e)
		}
		ahead = append(ahead, f)
	}
	return p, ahead
}

// The lowest frame of those that have room, though it came last, and though a higher one has a lower place.
func TestP13_2TheLowestFrame(t *testing.T) {
	for _, use := range uses() {
		n := places(use)
		high, low := run(91, use, n), run(3, use, n)
		for a := range n {
			for b := range n {
				p, _ := late(t)
				s := made(t, p, use)
				takes(t, s, slices.Concat(high, low)...)
				gives(t, s, api.OK, low[b], high[a])
				takes(t, s, low[b], high[a])
				takesNone(t, s, api.ErrNoMem)
			}
		}
	}
}

// No new frame comes while an old one has room, not even a lower one.
func TestP13_2OldFramesFirst(t *testing.T) {
	for _, use := range uses() {
		p, ahead := late(t)
		s := made(t, p, use)
		takes(t, s, 91*256)
		for _, f := range ahead {
			p.Give(f)
		}
		takes(t, s, run(91, use, places(use))[1:]...)
		takes(t, s, run(83, use, places(use))...)
		takesNone(t, s, api.ErrNoMem)
	}
}

// The quota may be used up by others: then it is ErrNoMem as well, but not while there is room.
func TestP13_2OthersTakeTheQuota(t *testing.T) {
	each(func(c api.Config, number int, use uint8) {
		p := fresh(t, c, number)
		s := made(t, p, use)
		at, _ := s.Take()
		for range quota(c.Parts[number], use) - 1 {
			if _, e := p.Take(use); e != api.OK {
				t.Fatal(e)
			}
		}
		takes(t, s, run(int(at/256), use, places(use))[1:]...)
		stays(t, p, s, func() { takesNone(t, s, api.ErrNoMem) })
		gives(t, s, api.OK, at)
		takes(t, s, at)
	})
}

// Slabs of one pool, of three uses or of one, have frames of their own.
func TestP13_2SeveralSlabs(t *testing.T) {
	p, q := fresh(t, odd(), 1), fresh(t, odd(), 1)
	var slabs []*slab.Slab
	var want [][]uint64
	for _, use := range []uint8{api.UseSpace, api.UseSpace, api.UseRegion, api.UsePage, api.UseRegion} {
		slabs = append(slabs, made(t, p, use))
		f, _ := q.Take(use)
		want = append(want, run(f, use, places(use)))
	}
	for i := range 4 {
		for k, s := range slabs {
			takes(t, s, want[k][i])
		}
	}
	samePool(t, p, q)
	for k, s := range slabs {
		holds(t, s, want[k][:4]...)
		gives(t, slabs[(k+1)%len(slabs)], api.ErrTaken, want[k]...)
		gives(t, s, api.OK, want[k][:4]...)
	}
	samePool(t, p, fresh(t, odd(), 1))
}

// P13.3

// Of all addresses of the machine and around it just those can be given back that are held.
func TestP13_3EachAddress(t *testing.T) {
	for _, use := range uses() {
		p, _ := late(t)
		s := made(t, p, use)
		fill(t, s)
		gives(t, s, api.OK, 91*256, 91*256+2*size(use), 3*256+size(use))
		held := s.Held()
		for at := range uint64(1<<20 + 1<<10) {
			if _, is := slices.BinarySearch(held, at); !is && s.Give(at) != api.ErrTaken {
				t.Fatalf("use %d: Give(%d) was not refused", use, at)
			}
		}
		gives(t, s, api.ErrTaken, far()...)
		for _, at := range held {
			gives(t, s, api.ErrTaken, at+1<<20, at+1<<32, at+1<<63, at|^uint64(1<<20-1))
		}
		holds(t, s, held...)
	}
}

// The frame 0 is one like others, the machine's last one, too.
func TestP13_3TheEndsOfTheMachine(t *testing.T) {
	for _, use := range uses() {
		p, _ := pool.New(usual(), 0)
		s := made(t, p, use)
		gives(t, s, api.ErrTaken, 0)
		takes(t, s, run(0, use, places(use))...)
		gives(t, s, api.ErrTaken, far()...)
		gives(t, s, api.OK, 0)
		gives(t, s, api.ErrTaken, 0)
		takes(t, s, 0)
		gives(t, s, api.OK, s.Held()...)
		gives(t, s, api.ErrTaken, 0)
		if !p.Whole() {
			t.Fatal("the frame 0 did not go back")
		}
	}
	p := fresh(t, greatest(), 0)
	for range 2000 {
		p.Take(api.UseUser)
		p.Take(api.UseTable)
	}
	fill(t, made(t, p, api.UseRegion))
	fill(t, made(t, p, api.UsePage))
	s := made(t, p, api.UseSpace)
	if l := fill(t, s); !slices.Equal(l[len(l)-4:], run(4095, api.UseSpace, 4)) || p.Counts()[api.UseFree] != 0 {
		t.Fatalf("the last ones are %v", l[len(l)-4:])
	}
	gives(t, s, api.ErrTaken, 1<<20-1, 1<<20, 1<<20-32)
	gives(t, s, api.OK, 1<<20-64)
	takes(t, s, 1<<20-64)
}

// A frame goes back with its last object, no earlier, in whatever order they are given.
func TestP13_3TheFrameGoesBack(t *testing.T) {
	d := dice(133)
	for range 40 {
		for _, use := range uses() {
			p := fresh(t, usual(), 0)
			s := made(t, p, use)
			left := fill(t, s)
			for len(left) > 0 {
				if p.Counts()[use] != 1 || p.Whole() {
					t.Fatalf("with %v left: %v", left, p.Counts())
				}
				i := d.below(len(left))
				gives(t, s, api.OK, left[i])
				gives(t, s, api.ErrTaken, left[i])
				left = slices.Delete(left, i, i+1)
				holds(t, s, left...)
			}
			samePool(t, p, fresh(t, usual(), 0))
		}
	}
}

// A frame that went back may go to others, whose it is then.
func TestP13_3TheFrameIsAnothers(t *testing.T) {
	p := fresh(t, usual(), 0)
	s, other := made(t, p, api.UseSpace), made(t, p, api.UseRegion)
	takes(t, s, 256, 320)
	gives(t, s, api.OK, 256, 320)
	takes(t, other, 256, 288, 320)
	stays(t, p, s, func() { gives(t, s, api.ErrTaken, 256, 288, 320) })
	takes(t, s, 5*256)
	gives(t, other, api.OK, 320, 288)
	holds(t, other, 256)
	holds(t, s, 5*256)
}

func TestP13_3WhatIsRefusedChangesNothing(t *testing.T) {
	each(func(c api.Config, number int, use uint8) {
		p := fresh(t, c, number)
		s := made(t, p, use)
		l := fill(t, s)
		gives(t, s, api.OK, l[0], l[len(l)-1])
		stays(t, p, s, func() {
			gives(t, s, api.ErrTaken, l[0], l[len(l)-1], l[1]+1, l[1]+size(use)/2, l[1]-1)
			gives(t, s, api.ErrTaken, far()...)
		})
	})
}

// P13.4

func TestP13_4HeldRises(t *testing.T) {
	for _, use := range uses() {
		p, _ := late(t)
		s := made(t, p, use)
		l := fill(t, s)
		if slices.IsSorted(l) {
			t.Fatal("what is taken here should not rise by itself")
		}
		slices.Sort(l)
		for range 20 {
			holds(t, s, l...)
		}
		gives(t, s, api.OK, l[1], l[len(l)-2])
		holds(t, s, slices.Delete(slices.Delete(l, len(l)-2, len(l)-1), 1, 2)...)
	}
}

func TestP13_4HeldIsNewMemory(t *testing.T) {
	for _, use := range uses() {
		s := made(t, fresh(t, odd(), 2), use)
		first := fill(t, s)
		slices.Sort(first)
		a, b := s.Held(), s.Held()
		room := a[:cap(a)]
		for i := range room {
			room[i] = 7
		}
		if !slices.Equal(b, first) {
			t.Fatalf("two answers share memory: %v", b)
		}
		holds(t, s, first...)
		gives(t, s, api.OK, first...)
		if holds(t, s); !slices.Equal(b, first) {
			t.Fatalf("an earlier answer became %v", b)
		}
	}
}

// P13.5

// needs fails the test unless the pool has for the slab's use just the frames in which objects lie, as many as there must be at least, and no objects meet.
func needs(t *testing.T, p *pool.Pool, s *slab.Slab, use uint8) {
	t.Helper()
	held := s.Held()
	var want, got []int
	for i, at := range held {
		if i > 0 && at < held[i-1]+size(use) || at%256 > 256-size(use) {
			t.Fatalf("objects lie over one another, or over the end of a frame: %v", held)
		}
		want = append(want, int(at/256))
	}
	for _, o := range p.Owned() {
		if o.Use == use {
			got = append(got, o.Frame)
		}
	}
	if want = slices.Compact(want); !slices.Equal(got, want) || len(got) != p.Counts()[use] {
		t.Fatalf("the pool has the frames %v for the objects %v", got, held)
	}
	if least := (len(held) + places(use) - 1) / places(use); len(got) < least {
		t.Fatalf("%d frames for %d objects", len(got), len(held))
	}
}

func TestP13_5LikeThePlainOne(t *testing.T) {
	d := dice(135)
	each(func(c api.Config, number int, use uint8) {
		p := fresh(t, c, number)
		s, m := made(t, p, use), &plain{pool: fresh(t, c, number), use: use}
		for _, more := range []int{14, 8, 17, 5, 11, 10} {
			for range 120 {
				wander(t, s, m, &d, more)
				holds(t, s, m.taken...)
				samePool(t, p, m.pool)
				needs(t, p, s, use)
			}
		}
	})
}

// Slabs of all uses, and others that take frames, in one pool.
func TestP13_5LikeThePlainOnesTogether(t *testing.T) {
	d := dice(1350)
	for number := range odd().Parts {
		p, q := fresh(t, odd(), number), fresh(t, odd(), number)
		var slabs []*slab.Slab
		var plains []*plain
		for _, use := range uses() {
			slabs = append(slabs, made(t, p, use))
			plains = append(plains, &plain{pool: q, use: use})
		}
		for step := range 2500 {
			k := d.below(3)
			wander(t, slabs[k], plains[k], &d, 9+step/500)
			if f, e := p.Take(api.UseTable); e == api.OK {
				q.Take(api.UseTable)
				if d.below(3) > 0 {
					p.Give(f)
					q.Give(f)
				}
			}
			holds(t, slabs[k], plains[k].taken...)
			samePool(t, p, q)
			needs(t, p, slabs[k], uses()[k])
		}
	}
}

func TestP13_5LikeThePlainOneWithTheMostFrames(t *testing.T) {
	d := dice(4096)
	for _, use := range uses() {
		p := fresh(t, greatest(), 0)
		s, m := made(t, p, use), &plain{pool: fresh(t, greatest(), 0), use: use}
		for step := range 1500 {
			wander(t, s, m, &d, 16-step/200)
			if step%100 == 0 {
				holds(t, s, m.taken...)
				samePool(t, p, m.pool)
				needs(t, p, s, use)
			}
		}
	}
}

// When all are given back, by chance, the pool is as it was, and what is taken then is what was taken at first.
func TestP13_5AllGivenBack(t *testing.T) {
	d := dice(1351)
	each(func(c api.Config, number int, use uint8) {
		p := fresh(t, c, number)
		s := made(t, p, use)
		first := fill(t, s)
		for range 10 {
			left := slices.Clone(first)
			for len(left) > 0 {
				i := d.below(len(left))
				gives(t, s, api.OK, left[i])
				left = slices.Delete(left, i, i+1)
			}
			holds(t, s)
			samePool(t, p, fresh(t, c, number))
			if again := fill(t, s); !slices.Equal(again, first) {
				t.Fatalf("%v were taken, at first %v", again, first)
			}
		}
	})
}

// The same calls are answered alike, and slabs of other pools have nothing to do with it.
func TestP13_5EachOneIsAlone(t *testing.T) {
	for _, use := range uses() {
		a, b := made(t, fresh(t, odd(), 1), use), made(t, fresh(t, odd(), 1), use)
		l := fill(t, a)
		holds(t, b)
		gives(t, b, api.ErrTaken, l...)
		for i := 0; i < len(l); i += 3 {
			gives(t, a, api.OK, l[i])
		}
		if again := fill(t, b); !slices.Equal(again, l) {
			t.Fatalf("%v were taken, of another one %v", again, l)
		}
	}
}

// P13.6

// There is room for as many objects as the quota's frames have places, wherever some were given back in between.
func TestP13_6AllPlaces(t *testing.T) {
	d := dice(136)
	each(func(c api.Config, number int, use uint8) {
		p := fresh(t, c, number)
		s := made(t, p, use)
		room := quota(c.Parts[number], use) * places(use)
		for range 20 {
			fill(t, s)
			held := s.Held()
			if len(held) != room || p.Counts()[use] != quota(c.Parts[number], use) {
				t.Fatalf("%d objects in %d frames, where there is room for %d", len(held), p.Counts()[use], room)
			}
			for range 1 + d.below(room) {
				i := d.below(len(held))
				gives(t, s, api.OK, held[i])
				held = slices.Delete(held, i, i+1)
			}
		}
	})
}

func TestP13_6AllPlacesOfTheGreatest(t *testing.T) {
	c := greatest()
	p := fresh(t, c, 0)
	for _, use := range uses() {
		s := made(t, p, use)
		if l := fill(t, s); len(l) != quota(c.Parts[0], use)*places(use) {
			t.Fatalf("use %d: room for %d", use, len(l))
		}
		needs(t, p, s, use)
	}
}

// Take is refused just if both are so: the quota is used up, by whomever, and no frame of the slab has a free place.
func TestP13_6JustIf(t *testing.T) {
	d := dice(1360)
	refused := 0
	each(func(c api.Config, number int, use uint8) {
		p := fresh(t, c, number)
		s := made(t, p, use)
		var mine, others []int
		for range 600 {
			held := s.Held()
			mine = nil
			for _, at := range held {
				mine = append(mine, int(at/256))
			}
			mine = slices.Compact(mine)
			full := p.Counts()[use] == quota(c.Parts[number], use) && len(held) == len(mine)*places(use)
			if _, e := s.Take(); full != (e == api.ErrNoMem) || !full && e != api.OK {
				t.Fatalf("Take: %d, with %v of the use and %v held", e, p.Counts()[use], held)
			}
			if full {
				refused++
			}
			if f, e := p.Take(use); e == api.OK && d.below(2) == 0 {
				others = append(others, f)
			} else if e == api.OK {
				p.Give(f)
			} else if len(others) > 0 && d.below(8) == 0 {
				p.Give(others[0])
				others = others[1:]
			}
			for len(held) > 0 && d.below(12) == 0 {
				i := d.below(len(held))
				gives(t, s, api.OK, held[i])
				held = slices.Delete(held, i, i+1)
			}
		}
	})
	if refused < 100 {
		t.Fatalf("only %d were refused", refused)
	}
}
