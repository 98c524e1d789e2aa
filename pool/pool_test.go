package pool_test

import (
	"math"
	"reflect"
	"slices"
	"testing"

	"cofferdam/api"
	"cofferdam/plan"
	"cofferdam/pool"
)

// usual is the configuration of the document's examples.
func usual() api.Config {
	return api.Config{
		Frames: 64, Colours: 4, Ways: 2, L1Sets: 4, L1Ways: 2, TLB: 4,
		Costs: api.Costs{L1: 1, LLC: 4, Miss: 10, Fault: 5, Step: 1, Disk: 20},
		Slice: 4000, Pad: 20, Turns: []int{0, 1},
		Parts: []api.Part{
			{Colours: []int{0, 1}, Order: 1, User: 4, Tables: 8, Spaces: 1, Regions: 1, Records: 1, Slots: 3},
			{Colours: []int{2}, User: 2, Tables: 6, Spaces: 1, Regions: 1, Records: 1, Slots: 3},
		},
	}
}

// least has one colour, and quotas that are together all frames.
func least() api.Config {
	c := usual()
	c.Frames, c.Colours, c.Turns = 10, 1, []int{0}
	c.Parts = []api.Part{{Colours: []int{0}, User: 2, Tables: 4, Spaces: 1, Regions: 1, Records: 1, Slots: 1}}
	return c
}

// odd has 13 frames of each colour, which are no power of two, and partitions whose colours do not begin with 0 and do not follow one another.
func odd() api.Config {
	c := usual()
	c.Frames, c.Slice = 104, 1<<22
	c.Colours = 8
	c.Parts = []api.Part{
		{Colours: []int{3}, Order: 1, User: 3, Tables: 4, Spaces: 1, Regions: 1, Records: 2, Slots: 9},
		{Colours: []int{0, 2, 7}, Order: 3, User: 12, Tables: 8, Spaces: 3, Regions: 4, Records: 4, Slots: 5},
		{Colours: []int{1, 6}, Order: 2, User: 8, Tables: 5, Spaces: 2, Regions: 2, Records: 1, Slots: 1},
	}
	c.Turns = []int{2, 0, 1}
	return c
}

// tight has an image that is as great as its colour, and no frame to spare.
func tight() api.Config {
	c := usual()
	c.Frames, c.Slice, c.Turns = 32, 1<<22, []int{0}
	c.Parts = []api.Part{{Colours: []int{1, 2, 3}, Order: 3, User: 4, Tables: 5, Spaces: 3, Regions: 2, Records: 2, Slots: 7}}
	return c
}

// greatest has as many partitions, colours and frames as there may be, none to spare.
func greatest() api.Config {
	c := usual()
	c.Frames, c.Colours, c.Slice = 4096, 16, 1<<22
	c.Parts, c.Turns = nil, []int{7, 6, 5, 4, 3, 2, 1, 0}
	for p := range 8 {
		c.Parts = append(c.Parts, api.Part{Colours: []int{p, p + 8}, Order: 3, User: 204, Tables: 100, Spaces: 50, Regions: 50, Records: 100, Slots: 128})
	}
	return c
}

// one has one partition with all frames of the greatest machine.
func one() api.Config {
	c := greatest()
	c.Turns = []int{0}
	c.Parts = []api.Part{{User: 3000, Tables: 500, Spaces: 100, Regions: 188, Records: 300, Order: 3, Slots: 1024}}
	for i := range 16 {
		c.Parts[0].Colours = append(c.Parts[0].Colours, i)
	}
	return c
}

// all is each configuration here; those with the most frames come last.
func all() []api.Config {
	return []api.Config{usual(), least(), odd(), tight(), greatest(), one()}
}

// small is those with few frames.
func small() []api.Config { return all()[:4] }

// each calls a function with each partition of configurations.
func each(l []api.Config, do func(c api.Config, p int)) {
	for _, c := range l {
		for p := range c.Parts {
			do(c, p)
		}
	}
}

// clone shares no memory with c.
func clone(c api.Config) api.Config {
	c.Turns = slices.Clone(c.Turns)
	c.Parts = slices.Clone(c.Parts)
	for p := range c.Parts {
		c.Parts[p].Colours = slices.Clone(c.Parts[p].Colours)
	}
	return c
}

// uses are those that Take takes for.
func uses() []uint8 {
	return []uint8{api.UseUser, api.UseTable, api.UseSpace, api.UseRegion, api.UsePage}
}

func quota(part api.Part, use uint8) int {
	return map[uint8]int{
		api.UseUser: part.User, api.UseTable: part.Tables, api.UseSpace: part.Spaces,
		api.UseRegion: part.Regions, api.UsePage: part.Records,
	}[use]
}

// none is pools that no call has made.
func none() []*pool.Pool { return []*pool.Pool{nil, {}, new(pool.Pool)} }

// far is numbers far outside; some of them wrap round to small ones, if they are multiplied or cut.
func far() []int {
	return []int{-1, -2, -4, -64, -4096, 4096, 4097, 1 << 16, 1 << 31, 1 << 32, 1<<32 + 1, 1 << 62, -1 << 32, math.MaxInt, math.MinInt, math.MinInt + 1}
}

func made(t *testing.T, c api.Config, p int) *pool.Pool {
	t.Helper()
	got, e := pool.New(c, p)
	if got == nil || e != api.OK {
		t.Fatalf("New(%+v, %d) = %v, %d", c, p, got, e)
	}
	return got
}

func takes(t *testing.T, p *pool.Pool, use uint8, want int) {
	t.Helper()
	if f, e := p.Take(use); f != want || e != api.OK {
		t.Fatalf("Take(%d) = %d, %d, want %d", use, f, e, want)
	}
}

func takesNone(t *testing.T, p *pool.Pool, use uint8, want api.Errno) {
	t.Helper()
	if f, e := p.Take(use); f != 0 || e != want {
		t.Fatalf("Take(%d) = %d, %d, want the error %d", use, f, e, want)
	}
}

func images(t *testing.T, p *pool.Pool, want ...int) {
	t.Helper()
	if l, e := p.Image(); !slices.Equal(l, want) || e != api.OK {
		t.Fatalf("Image = %v, %d, want %v", l, e, want)
	}
}

func imagesNone(t *testing.T, p *pool.Pool, want api.Errno) {
	t.Helper()
	if l, e := p.Image(); len(l) != 0 || e != want {
		t.Fatalf("Image = %v, %d, want the error %d", l, e, want)
	}
}

func gives(t *testing.T, p *pool.Pool, frame int, want api.Errno) {
	t.Helper()
	if e := p.Give(frame); e != want {
		t.Fatalf("Give(%d) = %d, want %d", frame, e, want)
	}
}

func frees(t *testing.T, p *pool.Pool, want ...int) {
	t.Helper()
	if l := p.Free(); !slices.Equal(l, want) {
		t.Fatalf("Free = %v, want %v", l, want)
	}
}

func counts(t *testing.T, p *pool.Pool, want ...int) {
	t.Helper()
	if n := p.Counts(); !slices.Equal(n[:], want) {
		t.Fatalf("Counts = %v, want %v", n, want)
	}
}

func owned(t *testing.T, p *pool.Pool, want ...api.Owned) {
	t.Helper()
	if l := p.Owned(); !slices.Equal(l, want) {
		t.Fatalf("Owned = %v, want %v", l, want)
	}
}

func whole(t *testing.T, p *pool.Pool, want bool) {
	t.Helper()
	if p.Whole() != want {
		t.Fatalf("Whole = %v", p.Whole())
	}
}

// stays fails the test unless what is done changes nothing that can be seen.
func stays(t *testing.T, p *pool.Pool, do func()) {
	t.Helper()
	n, l, o, w := p.Counts(), p.Free(), p.Owned(), p.Whole()
	do()
	counts(t, p, n[:]...)
	frees(t, p, l...)
	owned(t, p, o...)
	whole(t, p, w)
}

// dice are numbers that look like chance, the same ones in each run.
type dice uint64

func (d *dice) below(n int) int {
	*d = *d*6364136223846793005 + 1442695040888963407
	return int(uint64(*d) >> 33 % uint64(n))
}

// plain is a partition's frames by the document's words: it knows each frame's use, and reckons all else from these each time anew.
type plain struct {
	colours, frames int
	part            api.Part
	uses            []uint8 // of all the machine's frames
}

func newPlain(c api.Config, p int) *plain {
	return &plain{c.Colours, c.Frames, clone(c).Parts[p], make([]uint8, c.Frames)}
}

// frame is the one of a colour with an index.
func (m *plain) frame(of, index int) int { return index*m.colours + of }

func (m *plain) free(of int) int {
	n := 0
	for f := of; f < m.frames; f += m.colours {
		if m.uses[f] == api.UseFree {
			n++
		}
	}
	return n
}

func (m *plain) count(use uint8) int {
	n := 0
	for f, u := range m.uses {
		if u == use && slices.Contains(m.part.Colours, f%m.colours) {
			n++
		}
	}
	return n
}

// open says whether a block of a colour lies within its frames and is free wholly.
func (m *plain) open(of, at, order int) bool {
	for i := range 1 << order {
		if f := m.frame(of, at+i); f >= m.frames || m.uses[f] != api.UseFree {
			return false
		}
	}
	return true
}

// block is where a block of a colour is taken: the least place in the free blocks of the least order that suffices.
func (m *plain) block(of, order int) (int, bool) {
	for k := order; k <= 6; k++ {
		for at := 0; at < m.frames/m.colours; at += 1 << k {
			if m.open(of, at, k) && (k == 6 || !m.open(of, at&^(1<<k), k+1)) {
				return at, true
			}
		}
	}
	return 0, false
}

func (m *plain) take(use uint8) (int, bool) {
	if m.count(use) >= quota(m.part, use) {
		return 0, false
	}
	best := m.part.Colours[0]
	for _, of := range m.part.Colours {
		if m.free(of) > m.free(best) {
			best = of
		}
	}
	at, is := m.block(best, 0)
	if is {
		m.uses[m.frame(best, at)] = use
	}
	return m.frame(best, at), is
}

func (m *plain) image() ([]int, api.Errno) {
	if m.count(api.UseImage) > 0 {
		return nil, api.ErrTaken
	}
	at, is := m.block(m.part.Colours[0], m.part.Order)
	if !is {
		return nil, api.ErrNoMem
	}
	var l []int
	for i := range 1 << m.part.Order {
		l = append(l, m.frame(m.part.Colours[0], at+i))
		m.uses[l[i]] = api.UseImage
	}
	return l, api.OK
}

func (m *plain) give(frame int) bool {
	if frame < 0 || frame >= m.frames || m.uses[frame] <= api.UseImage {
		return false
	}
	m.uses[frame] = api.UseFree
	return true
}

// taken is the frames that can be given back.
func (m *plain) taken() []int {
	var l []int
	for f, use := range m.uses {
		if use > api.UseImage {
			l = append(l, f)
		}
	}
	return l
}

// like fails the test unless a pool tells what the plain one does.
func like(t *testing.T, p *pool.Pool, m *plain) {
	t.Helper()
	var n, l []int
	var o []api.Owned
	for use := range uint8(api.Uses) {
		n = append(n, m.count(use))
	}
	for _, of := range m.part.Colours {
		l = append(l, m.free(of))
	}
	for f, use := range m.uses {
		if use != api.UseFree {
			o = append(o, api.Owned{Frame: f, Use: use})
		}
	}
	counts(t, p, n...)
	frees(t, p, l...)
	owned(t, p, o...)
	whole(t, p, len(o) == m.count(api.UseImage))
}

func takeBoth(t *testing.T, p *pool.Pool, m *plain, use uint8) {
	t.Helper()
	if f, is := m.take(use); is {
		takes(t, p, use, f)
	} else {
		takesNone(t, p, use, api.ErrNoMem)
	}
}

func imageBoth(t *testing.T, p *pool.Pool, m *plain) {
	t.Helper()
	if l, e := m.image(); e == api.OK {
		images(t, p, l...)
	} else {
		imagesNone(t, p, e)
	}
}

func giveBoth(t *testing.T, p *pool.Pool, m *plain, frame int) {
	t.Helper()
	want := api.OK
	if !m.give(frame) {
		want = api.ErrTaken
	}
	gives(t, p, frame, want)
}

// fill takes of each use as many as its quota says, and one more, which is refused; the answer is what was taken.
func fill(t *testing.T, p *pool.Pool, part api.Part) []int {
	t.Helper()
	var l []int
	for _, use := range uses() {
		for range quota(part, use) {
			f, e := p.Take(use)
			if e != api.OK {
				t.Fatalf("Take(%d) = %d, of %+v", use, e, part)
			}
			l = append(l, f)
		}
		takesNone(t, p, use, api.ErrNoMem)
	}
	return l
}

// Each configuration here may be: the tests would tell nothing of others.
func TestConfigurations(t *testing.T) {
	for _, c := range all() {
		if l := plan.Check(c); len(l) != 0 {
			t.Fatalf("%+v: %v", c, l)
		}
	}
}

// The document's examples, one behind the other.
func TestP12_1Examples(t *testing.T) {
	spoiled := usual()
	spoiled.Colours = 3
	refused(t, usual(), 2, api.ErrPart)
	refused(t, spoiled, 2, api.ErrPlan)
	p := made(t, usual(), 0)
	frees(t, p, 16, 16)
	counts(t, p, 32, 0, 0, 0, 0, 0, 0)
	images(t, p, 0, 4)
	imagesNone(t, p, api.ErrTaken)
	frees(t, p, 14, 16)
	takes(t, p, api.UseUser, 1)
	takes(t, p, api.UseTable, 5)
	takes(t, p, api.UseTable, 8)
	frees(t, p, 13, 14)
	takesNone(t, p, api.UseImage, api.ErrArg)
	takesNone(t, p, 7, api.ErrArg)
	takes(t, p, api.UseSpace, 9)
	takesNone(t, p, api.UseSpace, api.ErrNoMem)
	owned(t, p, api.Owned{Frame: 0, Use: api.UseImage}, api.Owned{Frame: 1, Use: api.UseUser}, api.Owned{Frame: 4, Use: api.UseImage},
		api.Owned{Frame: 5, Use: api.UseTable}, api.Owned{Frame: 8, Use: api.UseTable}, api.Owned{Frame: 9, Use: api.UseSpace})
	gives(t, p, 0, api.ErrTaken)
	gives(t, p, 2, api.ErrTaken)
	gives(t, p, 1, api.OK)
	gives(t, p, 1, api.ErrTaken)
	whole(t, p, false)
}

// P12.1

func refused(t *testing.T, c api.Config, p int, want api.Errno) {
	t.Helper()
	if got, e := pool.New(c, p); got != nil || e != want {
		t.Fatalf("New(%+v, %d) = %v, %d, want the error %d", c, p, got, e, want)
	}
}

func TestP12_1AllAreFree(t *testing.T) {
	each(all(), func(c api.Config, p int) {
		got := made(t, c, p)
		like(t, got, newPlain(c, p))
		whole(t, got, true)
		if total, _ := plan.Total(c, p); got.Counts()[api.UseFree] != total {
			t.Fatalf("%+v: %v of %d are free", c, got.Counts(), total)
		}
	})
}

func TestP12_1NoSuchPartition(t *testing.T) {
	for _, c := range all() {
		for _, p := range append(far(), len(c.Parts), len(c.Parts)+1, 8, 9, 64) {
			refused(t, c, p, api.ErrPart)
		}
	}
}

// Whatever may not be of a configuration, in the partition that is asked for or elsewhere: that is told first.
func TestP12_1NoSuchConfiguration(t *testing.T) {
	for i, spoil := range []func(c *api.Config){
		func(c *api.Config) { *c = api.Config{} },
		func(c *api.Config) { c.Frames = 66 },
		func(c *api.Config) { c.Frames = math.MinInt },
		func(c *api.Config) { c.Colours = 0 },
		func(c *api.Config) { c.Costs.Miss = 0 },
		func(c *api.Config) { c.Pad = 11 },
		func(c *api.Config) { c.Turns = nil },
		func(c *api.Config) { c.Turns[1] = 2 },
		func(c *api.Config) { c.Parts = nil },
		func(c *api.Config) { c.Parts[0].Colours = nil },
		func(c *api.Config) { c.Parts[1].Colours[0] = 1 },
		func(c *api.Config) { c.Parts[0].Colours[1] = math.MaxInt },
		func(c *api.Config) { c.Parts[1].Order = 4 },
		func(c *api.Config) { c.Parts[0].User = 20 },
		func(c *api.Config) { c.Parts[0].Slots = 1022 },
	} {
		c := clone(usual())
		spoil(&c)
		for _, p := range append(far(), 0, 1, 2) {
			if got, e := pool.New(c, p); got != nil || e != api.ErrPlan {
				t.Errorf("spoiled as %d: New(%d) = %v, %d", i, p, got, e)
			}
		}
	}
}

// P12.2

func TestP12_2EachOrder(t *testing.T) {
	for order, want := range [][]int{{2}, {2, 6}, {2, 6, 10, 14}, {2, 6, 10, 14, 18, 22, 26, 30}} {
		c := usual()
		c.Parts = []api.Part{c.Parts[0]}
		c.Parts[0].Colours, c.Parts[0].Order, c.Turns = []int{2, 3}, order, []int{0}
		p := made(t, c, 0)
		images(t, p, want...)
		frees(t, p, 16-len(want), 16)
		counts(t, p, 32-len(want), len(want), 0, 0, 0, 0, 0)
		whole(t, p, true)
		stays(t, p, func() { imagesNone(t, p, api.ErrTaken) })
	}
}

func TestP12_2OfEachPartition(t *testing.T) {
	each(all(), func(c api.Config, p int) {
		got, m := made(t, c, p), newPlain(c, p)
		imageBoth(t, got, m)
		like(t, got, m)
		imageBoth(t, got, m)
		like(t, got, m)
	})
}

// The image is all of its colour.
func TestP12_2AWholeColour(t *testing.T) {
	p := made(t, tight(), 0)
	images(t, p, 1, 5, 9, 13, 17, 21, 25, 29)
	frees(t, p, 0, 8, 8)
	takes(t, p, api.UseUser, 2)
	takes(t, p, api.UseTable, 3)
	takes(t, p, api.UseTable, 6)
	takes(t, p, api.UseTable, 7)
	frees(t, p, 0, 6, 6)
}

// wide has two colours of 16 frames: with all quotas taken no block of 8 is free in either.
func wide() api.Config {
	c := usual()
	c.Slice, c.Turns = 1<<22, []int{0}
	c.Parts = []api.Part{{Colours: []int{0, 1}, Order: 3, User: 8, Tables: 10, Spaces: 2, Regions: 2, Records: 2, Slots: 3}}
	return c
}

// Behind frames that were taken alone the image lies where its colour has a block; if that has none, another colour's is not taken.
func TestP12_2NoBlockInTheFirstColour(t *testing.T) {
	p := made(t, wide(), 0)
	fill(t, p, wide().Parts[0])
	frees(t, p, 4, 4)
	stays(t, p, func() { imagesNone(t, p, api.ErrNoMem) })
	for index := 8; index < 12; index++ {
		gives(t, p, 4*index+1, api.OK)
	}
	frees(t, p, 4, 8)
	stays(t, p, func() { imagesNone(t, p, api.ErrNoMem) })
	for index := 0; index < 12; index += 2 {
		gives(t, p, 4*index, api.OK)
	}
	frees(t, p, 10, 8)
	stays(t, p, func() { imagesNone(t, p, api.ErrNoMem) })
	gives(t, p, 36, api.OK)
	gives(t, p, 44, api.OK)
	images(t, p, 32, 36, 40, 44, 48, 52, 56, 60)
	imagesNone(t, p, api.ErrTaken)
}

// That it was taken is told ahead of there being no block for it.
func TestP12_2TakenFirst(t *testing.T) {
	for _, c := range []api.Config{tight(), wide()} {
		p := made(t, c, 0)
		if _, e := p.Image(); e != api.OK {
			t.Fatal(e)
		}
		fill(t, p, c.Parts[0])
		stays(t, p, func() { imagesNone(t, p, api.ErrTaken) })
	}
}

func TestP12_2OfNone(t *testing.T) {
	for _, p := range none() {
		imagesNone(t, p, api.ErrNil)
	}
}

// P12.3

func TestP12_3WrongUses(t *testing.T) {
	for _, c := range small() {
		p := made(t, c, 0)
		wrong := func() {
			for use := range 256 {
				if use < 2 || use > 6 {
					takesNone(t, p, uint8(use), api.ErrArg)
				}
			}
		}
		stays(t, p, wrong)
		fill(t, p, c.Parts[0])
		stays(t, p, wrong)
	}
}

// Each use has its own quota, whatever is taken for others; a frame that is given back counts no more.
func TestP12_3Quotas(t *testing.T) {
	each(all(), func(c api.Config, p int) {
		part := c.Parts[p]
		for _, use := range uses() {
			got := made(t, c, p)
			var last int
			for range quota(part, use) {
				f, e := got.Take(use)
				if e != api.OK {
					t.Fatalf("Take(%d): %d", use, e)
				}
				last = f
			}
			stays(t, got, func() { takesNone(t, got, use, api.ErrNoMem) })
			for _, other := range uses() {
				if _, e := got.Take(other); (e == api.OK) != (other != use) {
					t.Fatalf("Take(%d) behind all of %d: %d", other, use, e)
				}
			}
			gives(t, got, last, api.OK)
			if _, e := got.Take(use); e != api.OK {
				t.Fatalf("Take(%d) behind a Give: %d", use, e)
			}
			takesNone(t, got, use, api.ErrNoMem)
		}
	})
}

// All quotas and the image can be used up together, even where they are all that there is.
func TestP12_3AllOfThem(t *testing.T) {
	each(all(), func(c api.Config, p int) {
		got, part := made(t, c, p), c.Parts[p]
		if _, e := got.Image(); e != api.OK {
			t.Fatal(e)
		}
		fill(t, got, part)
		total, _ := plan.Total(c, p)
		image := 1 << part.Order
		rest := total - image - part.User - part.Tables - part.Spaces - part.Regions - part.Records
		counts(t, got, rest, image, part.User, part.Tables, part.Spaces, part.Regions, part.Records)
	})
}

// In turn of the two colours, the first one first; behind an image, of the other one till they are alike.
func TestP12_3TheColourWithTheMost(t *testing.T) {
	p := made(t, wide(), 0)
	for i, want := range []int{0, 1, 4, 5, 8, 9, 12, 13} {
		takes(t, p, []uint8{api.UseTable, api.UseUser}[i%2], want)
	}
	gives(t, p, 1, api.OK)
	gives(t, p, 9, api.OK)
	gives(t, p, 0, api.OK)
	frees(t, p, 13, 14)
	takes(t, p, api.UseUser, 1)
	takes(t, p, api.UseUser, 0)
	takes(t, p, api.UseUser, 9)
	p = made(t, wide(), 0)
	images(t, p, 0, 4, 8, 12, 16, 20, 24, 28)
	for _, want := range []int{1, 5, 9, 13, 17, 21, 25, 29} {
		takes(t, p, api.UseTable, want)
	}
	frees(t, p, 8, 8)
	takes(t, p, api.UseTable, 32)
	takes(t, p, api.UseTable, 33)
}

// Of three colours the one in the middle, or the last one, may have the most.
func TestP12_3OfThreeColours(t *testing.T) {
	p := made(t, odd(), 1)
	fill(t, p, odd().Parts[1])
	frees(t, p, 2, 3, 3)
	give := func(of, n int) {
		for _, o := range p.Owned() {
			if o.Frame%8 == of && n > 0 {
				gives(t, p, o.Frame, api.OK)
				n--
			}
		}
	}
	next := func(want int) {
		t.Helper()
		for _, use := range uses() {
			if f, e := p.Take(use); e == api.OK {
				if f%8 != want {
					t.Fatalf("Take(%d) = %d, want the colour %d", use, f, want)
				}
				return
			}
		}
		t.Fatal("all quotas are used up")
	}
	give(7, 1)
	frees(t, p, 2, 3, 4)
	next(7)
	give(2, 2)
	frees(t, p, 2, 5, 3)
	next(2)
	next(2)
	give(0, 2)
	give(7, 1)
	frees(t, p, 4, 3, 4)
	next(0)
	next(7)
	next(0)
	frees(t, p, 2, 3, 3)
}

// Within a colour it is the frame that its blocks tell: not the lowest one, but one of the least block.
func TestP12_3TheLeastBlock(t *testing.T) {
	p := made(t, odd(), 0)
	takes(t, p, api.UseUser, 8*12+3)
	takes(t, p, api.UseUser, 8*8+3)
	takes(t, p, api.UseTable, 8*9+3)
	takes(t, p, api.UseTable, 8*10+3)
	gives(t, p, 8*8+3, api.OK)
	takes(t, p, api.UseTable, 8*8+3)
	takes(t, p, api.UseTable, 8*11+3)
	takes(t, p, api.UseSpace, 3)
}

func TestP12_3OfNone(t *testing.T) {
	for _, p := range none() {
		for use := range 256 {
			takesNone(t, p, uint8(use), api.ErrNil)
		}
	}
}

// P12.4

// Of all numbers there are, just the frames that were taken can be given back, each once.
func TestP12_4JustWhatWasTaken(t *testing.T) {
	each(small(), func(c api.Config, p int) {
		got, m := made(t, c, p), newPlain(c, p)
		imageBoth(t, got, m)
		for i := range 11 {
			takeBoth(t, got, m, uses()[i%5])
		}
		kept := m.taken()
		stays(t, got, func() {
			for f := -200; f < 4200; f++ {
				if !slices.Contains(kept, f) {
					gives(t, got, f, api.ErrTaken)
				}
			}
			for _, f := range far() {
				gives(t, got, f, api.ErrTaken)
			}
		})
		for _, f := range kept {
			giveBoth(t, got, m, f)
			like(t, got, m)
			stays(t, got, func() { gives(t, got, f, api.ErrTaken) })
		}
	})
}

// Numbers that become a taken frame's, if they are cut.
func TestP12_4NumbersThatWrap(t *testing.T) {
	p := made(t, usual(), 0)
	takes(t, p, api.UseUser, 0)
	takes(t, p, api.UseUser, 1)
	stays(t, p, func() {
		for _, shift := range []int{8, 12, 16, 20, 31, 32, 33, 48, 62, 63} {
			gives(t, p, 1<<shift, api.ErrTaken)
			gives(t, p, 1<<shift+1, api.ErrTaken)
			gives(t, p, -1<<shift, api.ErrTaken)
			gives(t, p, -1<<shift+1, api.ErrTaken)
		}
	})
	gives(t, p, 1, api.OK)
	gives(t, p, 0, api.OK)
}

// The image is never given back, neither in part nor in whatever order.
func TestP12_4TheImageStays(t *testing.T) {
	each(all(), func(c api.Config, p int) {
		got := made(t, c, p)
		l, e := got.Image()
		if e != api.OK {
			t.Fatal(e)
		}
		slices.Reverse(l)
		stays(t, got, func() {
			for _, f := range append(l, l...) {
				gives(t, got, f, api.ErrTaken)
			}
		})
	})
}

func TestP12_4OfNone(t *testing.T) {
	for _, p := range none() {
		for _, f := range append(far(), 0, 1, 63) {
			gives(t, p, f, api.ErrNil)
		}
	}
}

// P12.5

func TestP12_5OfNone(t *testing.T) {
	for _, p := range none() {
		counts(t, p, 0, 0, 0, 0, 0, 0, 0)
		frees(t, p)
		owned(t, p)
		whole(t, p, false)
	}
}

// Each use counts at its own place.
func TestP12_5EachUse(t *testing.T) {
	p := made(t, one(), 0)
	images(t, p, 0, 16, 32, 48, 64, 80, 96, 112)
	for i, use := range uses() {
		for range 3 + i {
			if _, e := p.Take(use); e != api.OK {
				t.Fatal(e)
			}
		}
	}
	counts(t, p, 4096-8-25, 8, 3, 4, 5, 6, 7)
	frees(t, p, 248, 254, 254, 254, 254, 254, 254, 254, 254, 254, 254, 255, 255, 255, 255, 255)
	at := map[uint8]int{}
	for _, o := range p.Owned() {
		at[o.Use]++
	}
	if !reflect.DeepEqual(at, map[uint8]int{1: 8, 2: 3, 3: 4, 4: 5, 5: 6, 6: 7}) {
		t.Fatalf("Owned tells %v", at)
	}
}

// Owned rises, in whatever order the frames were taken.
func TestP12_5OwnedRises(t *testing.T) {
	p := made(t, odd(), 0)
	takes(t, p, api.UseTable, 99)
	takes(t, p, api.UseUser, 67)
	takes(t, p, api.UseSpace, 75)
	images(t, p, 83, 91)
	takes(t, p, api.UsePage, 3)
	owned(t, p, api.Owned{Frame: 3, Use: api.UsePage}, api.Owned{Frame: 67, Use: api.UseUser}, api.Owned{Frame: 75, Use: api.UseSpace},
		api.Owned{Frame: 83, Use: api.UseImage}, api.Owned{Frame: 91, Use: api.UseImage}, api.Owned{Frame: 99, Use: api.UseTable})
	each(all(), func(c api.Config, p int) {
		got := made(t, c, p)
		fill(t, got, c.Parts[p])
		if l := got.Owned(); !slices.IsSortedFunc(l, func(a, b api.Owned) int { return a.Frame - b.Frame }) {
			t.Fatalf("Owned = %v", l)
		}
	})
}

// One frame of any use and it is whole no more; the image does not count.
func TestP12_5Whole(t *testing.T) {
	for _, use := range uses() {
		p := made(t, usual(), 0)
		for range 2 {
			whole(t, p, true)
			f, _ := p.Take(use)
			whole(t, p, false)
			gives(t, p, f, api.OK)
			whole(t, p, true)
			p.Image()
		}
		takes(t, p, use, 1)
		imagesNone(t, p, api.ErrTaken)
		whole(t, p, false)
	}
}

// P12.6

// A pool goes on as it was made, whatever becomes of the configuration; and that is not changed.
func TestP12_6TheConfigurationIsNotKept(t *testing.T) {
	each(small(), func(c api.Config, p int) {
		kept := clone(c)
		c = clone(c)
		for i := range c.Parts {
			c.Parts[i].Colours = append(make([]int, 0, 40), c.Parts[i].Colours...)
		}
		got, m := made(t, c, p), newPlain(kept, p)
		imageBoth(t, got, m)
		if !reflect.DeepEqual(c, kept) || slices.ContainsFunc(c.Parts[p].Colours[len(c.Parts[p].Colours):40], func(n int) bool { return n != 0 }) {
			t.Fatalf("%+v became %+v", kept, c)
		}
		for i := range c.Parts {
			l := c.Parts[i].Colours[:40]
			for j := range l {
				l[j] = 5
			}
			c.Parts[i] = api.Part{Colours: c.Parts[i].Colours, Order: -1, User: 4096}
		}
		for i := range 60 {
			takeBoth(t, got, m, uses()[i%5])
			like(t, got, m)
		}
		for _, f := range m.taken() {
			giveBoth(t, got, m, f)
			like(t, got, m)
		}
	})
}

// spoil changes all of a list, and what stands in its spare room.
func spoil[T any](l []T, with T) {
	l = l[:cap(l)]
	for i := range l {
		l[i] = with
	}
}

func TestP12_6AnswersAreNew(t *testing.T) {
	each(small(), func(c api.Config, p int) {
		got, m := made(t, c, p), newPlain(c, p)
		want, _ := m.image()
		l, _ := got.Image()
		if !slices.Equal(l, want) {
			t.Fatalf("Image = %v, want %v", l, want)
		}
		spoil(l, -7)
		for i := range 30 {
			takeBoth(t, got, m, uses()[i%5])
			free, owns, n := got.Free(), got.Owned(), got.Counts()
			keptFree, keptOwns := got.Free(), got.Owned()
			again := slices.Clone(keptFree)
			ownsAgain := slices.Clone(keptOwns)
			spoil(free, -7)
			spoil(owns, api.Owned{Frame: -7, Use: 77})
			n[0] = -7
			like(t, got, m)
			if !slices.Equal(keptFree, again) || !slices.Equal(keptOwns, ownsAgain) {
				t.Fatal("two answers share memory")
			}
		}
	})
}

// An answer is what stood there then, whatever is done later.
func TestP12_6AnswersStay(t *testing.T) {
	p := made(t, usual(), 0)
	l, e := p.Image()
	free, owns := p.Free(), p.Owned()
	fill(t, p, usual().Parts[0])
	if e != api.OK || !slices.Equal(l, []int{0, 4}) || !slices.Equal(free, []int{14, 16}) ||
		!slices.Equal(owns, []api.Owned{{Frame: 0, Use: api.UseImage}, {Frame: 4, Use: api.UseImage}}) {
		t.Fatalf("earlier answers became %v, %v, %v", l, free, owns)
	}
}

// Two pools of one partition have nothing to do with each other.
func TestP12_6EachOneIsAlone(t *testing.T) {
	a, b := made(t, usual(), 0), made(t, usual(), 0)
	images(t, a, 0, 4)
	takes(t, a, api.UseSpace, 1)
	counts(t, b, 32, 0, 0, 0, 0, 0, 0)
	gives(t, b, 1, api.ErrTaken)
	takes(t, b, api.UseSpace, 0)
	images(t, b, 8, 12)
	takesNone(t, a, api.UseSpace, api.ErrNoMem)
	gives(t, a, 1, api.OK)
	counts(t, b, 29, 2, 0, 0, 1, 0, 0)
}

// Errors of all kinds leave a pool so that it goes on like one that never met them.
func TestP12_6ErrorsChangeNothing(t *testing.T) {
	d := dice(126)
	for _, c := range append(small(), wide()) {
		got, m := made(t, c, 0), newPlain(c, 0)
		for step := range 150 {
			stays(t, got, func() {
				takesNone(t, got, api.UseFree, api.ErrArg)
				takesNone(t, got, api.Uses, api.ErrArg)
				gives(t, got, -1, api.ErrTaken)
				for _, use := range uses() {
					if m.count(use) == quota(c.Parts[0], use) {
						takesNone(t, got, use, api.ErrNoMem)
					}
				}
				if m.count(api.UseImage) > 0 {
					imagesNone(t, got, api.ErrTaken)
				}
				for f := range c.Frames {
					if m.uses[f] <= api.UseImage {
						gives(t, got, f, api.ErrTaken)
					}
				}
			})
			wander(t, got, m, &d)
			if step == 70 {
				imageBoth(t, got, m)
			}
			like(t, got, m)
		}
	}
}

// P12.7

// wander takes or gives by chance, of a pool and of the plain one, now and then something that can't be.
func wander(t *testing.T, p *pool.Pool, m *plain, d *dice) {
	t.Helper()
	taken := m.taken()
	switch k := d.below(10); {
	case k < 6:
		takeBoth(t, p, m, uses()[d.below(5)])
	case k < 9 && len(taken) > 0:
		giveBoth(t, p, m, taken[d.below(len(taken))])
	default:
		giveBoth(t, p, m, d.below(m.frames+8)-4)
	}
}

func TestP12_7LikeThePlainOne(t *testing.T) {
	d := dice(12)
	each(append(small(), wide()), func(c api.Config, p int) {
		for round := range 8 {
			got, m := made(t, c, p), newPlain(c, p)
			for step := range 200 {
				if step == round*round {
					imageBoth(t, got, m)
				}
				wander(t, got, m, &d)
				like(t, got, m)
			}
		}
	})
}

func TestP12_7LikeThePlainOneWithTheMostFrames(t *testing.T) {
	d := dice(127)
	for _, c := range []api.Config{greatest(), one()} {
		got, m := made(t, c, 0), newPlain(c, 0)
		imageBoth(t, got, m)
		for step := range 900 {
			wander(t, got, m, &d)
			if step%50 == 0 {
				like(t, got, m)
			}
		}
		like(t, got, m)
	}
}

// What the pools of all partitions themselves tell is enough: all of it is its total, no quota is passed, all frames have colours of the partition's, and none is in two of them.
func TestP12_7OneOwner(t *testing.T) {
	d := dice(77)
	for _, c := range all() {
		var pools []*pool.Pool
		for p := range c.Parts {
			pools = append(pools, made(t, c, p))
		}
		for step := range 600 {
			p := d.below(len(pools))
			if step == 20 || step == 21 {
				pools[p].Image()
			}
			if owns := pools[p].Owned(); d.below(4) == 0 && len(owns) > 0 {
				pools[p].Give(owns[d.below(len(owns))].Frame)
			} else {
				pools[p].Take(uint8(d.below(api.Uses)))
			}
			within(t, pools[p], c, p)
		}
		for p, got := range pools {
			for _, use := range uses() {
				for range quota(c.Parts[p], use) {
					got.Take(use)
				}
			}
			within(t, got, c, p)
		}
		seen := map[int]int{}
		for p, got := range pools {
			for _, o := range got.Owned() {
				if other, is := seen[o.Frame]; is {
					t.Fatalf("the frame %d is in the pools %d and %d", o.Frame, other, p)
				}
				seen[o.Frame] = p
			}
		}
	}
}

func within(t *testing.T, p *pool.Pool, c api.Config, number int) {
	t.Helper()
	part := c.Parts[number]
	total, _ := plan.Total(c, number)
	n, sum, free := p.Counts(), 0, 0
	for _, k := range n {
		sum += k
	}
	for _, k := range p.Free() {
		free += k
	}
	if sum != total || free != n[api.UseFree] || free+len(p.Owned()) != total {
		t.Fatalf("Counts = %v, Free = %v, %d owned, of %d", n, p.Free(), len(p.Owned()), total)
	}
	for _, use := range uses() {
		if n[use] > quota(part, use) {
			t.Fatalf("Counts = %v, of %+v", n, part)
		}
	}
	if image := n[api.UseImage]; image != 0 && image != 1<<part.Order {
		t.Fatalf("%d frames of the image, of %+v", image, part)
	}
	for i, o := range p.Owned() {
		if !slices.Contains(part.Colours, o.Frame%c.Colours) || o.Frame >= c.Frames {
			t.Fatalf("the %dth one owned is %v, of %+v", i, o, part)
		}
	}
}

// P12.8

// orders calls a function with all orders of the numbers below n.
func orders(n int, do func([]int)) {
	var grow func([]int)
	grow = func(l []int) {
		if len(l) == n {
			do(l)
			return
		}
		for i := range n {
			if !slices.Contains(l, i) {
				grow(append(slices.Clone(l), i))
			}
		}
	}
	grow(nil)
}

// asNew fails the test unless a pool, all of which was given back, is like a new one behind its image.
func asNew(t *testing.T, got *pool.Pool, c api.Config, p int, image bool) {
	t.Helper()
	fresh := made(t, c, p)
	if image {
		if _, e := fresh.Image(); e != api.OK {
			t.Fatal(e)
		}
	}
	n := fresh.Counts()
	whole(t, got, true)
	counts(t, got, n[:]...)
	frees(t, got, fresh.Free()...)
	owned(t, got, fresh.Owned()...)
	want := fill(t, fresh, c.Parts[p])
	if l := fill(t, got, c.Parts[p]); !slices.Equal(l, want) {
		t.Fatalf("%v were taken, of a new one %v", l, want)
	}
}

// Few frames, given back in each order there is.
func TestP12_8InEachOrder(t *testing.T) {
	each(append(small(), wide()), func(c api.Config, p int) {
		for _, image := range []bool{true, false} {
			orders(5, func(back []int) {
				got := made(t, c, p)
				if image {
					got.Image()
				}
				var taken []int
				for _, i := range back {
					f, e := got.Take(uses()[i])
					if e != api.OK {
						t.Fatal(e)
					}
					taken = append(taken, f)
				}
				for _, i := range back {
					whole(t, got, false)
					gives(t, got, taken[i], api.OK)
				}
				asNew(t, got, c, p, image)
			})
		}
	})
}

// All that can be taken, given back by chance, again and again.
func TestP12_8AllOfThemAgain(t *testing.T) {
	d := dice(128)
	each(append(all(), wide()), func(c api.Config, p int) {
		got := made(t, c, p)
		if p%2 == 0 {
			if _, e := got.Image(); e != api.OK {
				t.Fatal(e)
			}
		}
		for range 3 {
			taken := fill(t, got, c.Parts[p])
			for len(taken) > 0 {
				i := d.below(len(taken))
				gives(t, got, taken[i], api.OK)
				taken[i] = taken[len(taken)-1]
				taken = taken[:len(taken)-1]
			}
			asNew(t, got, c, p, p%2 == 0)
			for _, o := range got.Owned() {
				if o.Use != api.UseImage {
					gives(t, got, o.Frame, api.OK)
				}
			}
		}
		if p%2 != 0 {
			if l, e := got.Image(); e != api.OK || len(l) != 1<<c.Parts[p].Order || l[0] != c.Parts[p].Colours[0] {
				t.Fatalf("Image behind all of them = %v, %d", l, e)
			}
		}
	})
}

// P12.9

// Where frames are taken alone what is free differs by one at most, and does not fall from colour to colour.
func TestP12_9TakenAlone(t *testing.T) {
	d := dice(129)
	each(append(all(), wide()), func(c api.Config, p int) {
		got := made(t, c, p)
		for range 4096 {
			got.Take(uses()[d.below(5)])
			l := got.Free()
			if !slices.IsSorted(l) || l[len(l)-1]-l[0] > 1 {
				t.Fatalf("Free = %v, of %+v", l, c.Parts[p])
			}
		}
	})
}

// At any time no frame is taken of a colour while another one has more; of those with as many it is the first one.
func TestP12_9AtAnyTime(t *testing.T) {
	d := dice(9)
	each(append(all(), wide()), func(c api.Config, p int) {
		got := made(t, c, p)
		part := c.Parts[p]
		for step := range 1000 {
			if step == 30 {
				got.Image()
			}
			free := got.Free()
			if f, e := got.Take(uses()[d.below(5)]); e == api.OK {
				at := slices.Index(free, slices.Max(free))
				if f%c.Colours != part.Colours[at] {
					t.Fatalf("%d was taken, where Free = %v of %v", f, free, part.Colours)
				}
			}
			owns := got.Owned()
			for d.below(3) > 0 && len(owns) > 0 {
				got.Give(owns[d.below(len(owns))].Frame)
			}
		}
	})
}
