package plan_test

import (
	"fmt"
	"math"
	"reflect"
	"slices"
	"testing"

	"cofferdam/api"
	"cofferdam/colour"
	"cofferdam/cost"
	"cofferdam/plan"
)

// usual is the document's configuration.
func usual() api.Config {
	return api.Config{
		Frames: 64, Colours: 4, Ways: 2, L1Sets: 4, L1Ways: 2, TLB: 4,
		Costs: api.Costs{L1: 1, LLC: 4, Miss: 10, Fault: 5, Step: 1, Disk: 20},
		Slice: 4000, Pad: 20, Turns: []int{0, 1},
		Parts: []api.Part{
			{Colours: []int{0, 1}, Order: 1, User: 4, Tables: 8, Spaces: 1, Regions: 1, Records: 1, Slots: 3},
			{Colours: []int{2}, User: 2, Tables: 6, Spaces: 1, Regions: 1, Records: 1, Slots: 3},
		},
	}
}

// least has each number as small as it may be, with room for nothing more.
func least() api.Config {
	return api.Config{
		Frames: 10, Colours: 1, Ways: 1, L1Sets: 1, L1Ways: 1, TLB: 1,
		Costs: api.Costs{L1: 1, LLC: 1, Miss: 1, Fault: 1, Step: 1, Disk: 1},
		Slice: 193, Pad: 2, Turns: []int{0},
		Parts: []api.Part{{Colours: []int{0}, User: 2, Tables: 4, Spaces: 1, Regions: 1, Records: 1, Slots: 1}},
	}
}

// greatest has all sizes, lists and times at their upper ends: eight partitions with all colours, all slots and all frames among them.
func greatest() api.Config {
	c := api.Config{
		Frames: 4096, Colours: 16, Ways: 16, L1Sets: 4096, L1Ways: 16, TLB: 64,
		Costs: api.Costs{L1: 1, LLC: 10, Miss: 400, Fault: 65536, Step: 63, Disk: 65536},
		Slice: 1 << 22, Pad: 1 << 22, First: 1<<40 - 1,
	}
	for i := range 64 {
		c.Turns = append(c.Turns, 7-i%8)
	}
	for p := range 8 {
		c.Parts = append(c.Parts, api.Part{Colours: []int{p, p + 8}, Order: 3, User: 204, Tables: 100, Spaces: 50, Regions: 50, Records: 100, Slots: 128})
	}
	return c
}

// one has one partition with all frames and slots of a great machine.
func one() api.Config {
	c := greatest()
	c.Costs.Miss, c.Turns = 40, make([]int, 64)
	c.Parts = []api.Part{{User: 3000, Tables: 500, Spaces: 100, Regions: 188, Records: 300, Order: 3, Slots: 1024}}
	for i := range 16 {
		c.Parts[0].Colours = append(c.Parts[0].Colours, i)
	}
	return c
}

// clone shares no memory with c, so that a test may change it.
func clone(c api.Config) api.Config {
	c.Turns = slices.Clone(c.Turns)
	c.Parts = slices.Clone(c.Parts)
	for p := range c.Parts {
		c.Parts[p].Colours = slices.Clone(c.Parts[p].Colours)
	}
	return c
}

// with is c, changed.
func with(c api.Config, change func(c *api.Config)) api.Config {
	c = clone(c)
	change(&c)
	return c
}

// sizes, prices, times and quotas are fields, so that each of them can be set alone.
func sizes(c *api.Config) []*int {
	return []*int{&c.Frames, &c.Colours, &c.Ways, &c.L1Sets, &c.L1Ways, &c.TLB}
}

func prices(c *api.Config) []*uint64 {
	return []*uint64{&c.Costs.L1, &c.Costs.LLC, &c.Costs.Miss, &c.Costs.Fault, &c.Costs.Step, &c.Costs.Disk}
}

func times(c *api.Config) []*uint64 { return []*uint64{&c.Slice, &c.Pad, &c.First} }

func quotas(part *api.Part) []*int {
	return []*int{&part.Order, &part.User, &part.Tables, &part.Spaces, &part.Regions, &part.Records, &part.Slots}
}

// far are numbers far outside; some of them wrap round to small ones, if they are added, multiplied, shifted or cut.
func far() []int {
	l := []int{-1, -2, -4, -16, -4096, 1 << 31, 1<<31 + 4, 1 << 32, 1<<32 + 1, 1<<32 + 4, -1 << 32}
	for shift := 57; shift < 63; shift++ {
		l = append(l, 1<<shift, 1<<shift+4, -1<<shift, -1<<shift+4)
	}
	return append(l, math.MaxInt, math.MaxInt-1, math.MinInt, math.MinInt+1)
}

// farTimes are likewise, without a sign.
func farTimes() []uint64 {
	return []uint64{1<<40 + 1, 1 << 41, 1 << 62, 1<<63 - 1, 1 << 63, 1<<63 + 4000, math.MaxUint64 - 4000, math.MaxUint64 - 1, math.MaxUint64}
}

func fault(code api.Errno, at int) api.Fault { return api.Fault{Code: code, At: at} }

// faults fails the test unless Check tells just those, and May accordingly.
func faults(t *testing.T, c api.Config, want ...api.Fault) {
	t.Helper()
	if got := plan.Check(c); !slices.Equal(got, want) {
		t.Fatalf("Check(%+v) = %v; want %v", c, got, want)
	}
	if may := plan.May(c); may != (len(want) == 0) {
		t.Fatalf("May(%+v) = %v", c, may)
	}
}

// partly fails the test unless Check tells what is wanted of that thing, whatever it tells of others.
func partly(t *testing.T, c api.Config, at int, want api.Errno) {
	t.Helper()
	got := api.OK
	for _, f := range plan.Check(c) {
		if f.At == at {
			got = f.Code
		}
	}
	if got != want {
		t.Fatalf("Check(%+v) tells %d of the thing %d; want %d", c, got, at, want)
	}
}

// naive is what the document's table says of all things, each line of it asked for itself, with frames, turns and slots counted one by one.
func naive(c api.Config) []api.Fault {
	var wrong [12]api.Errno
	if !naiveSizes(c) {
		wrong[0] = api.ErrMachine
	}
	wrong[1] = cost.Check(c.Costs)
	if c.Slice == 0 || c.Slice > 1<<22 || c.Pad > 1<<22 || c.First >= 1<<40 {
		wrong[2] = api.ErrSlice
	}
	if len(c.Turns) == 0 || len(c.Turns) > 64 {
		wrong[3] = api.ErrTurns
	}
	for _, p := range c.Turns {
		if p < 0 || p >= len(c.Parts) {
			wrong[3] = api.ErrTurns
		}
	}
	for p := range c.Parts {
		if p < 8 && !naiveColours(c, p) {
			wrong[4+p] = api.ErrColour
		} else if p < 8 && (!naiveQuotas(c, p) || wrong[0] == api.OK && !naiveRoom(c, p)) {
			wrong[4+p] = api.ErrQuota
		}
	}
	if wrong[0] == api.OK && wrong[1] == api.OK {
		if c.Pad < uint64(c.L1Sets*c.L1Ways+c.TLB)*c.Costs.Step {
			wrong[2] = api.ErrSlice
		}
		for p := range c.Parts {
			if wrong[4+p] == api.OK && c.Slice < naiveMost(c, p) {
				wrong[2] = api.ErrSlice
			}
		}
	}
	var l []api.Fault
	for at, code := range wrong {
		if code != api.OK {
			l = append(l, fault(code, at))
		}
	}
	return l
}

func naiveSizes(c api.Config) bool {
	return slices.Contains([]int{1, 2, 4, 8, 16}, c.Colours) && c.Frames > 0 && c.Frames <= 4096 && c.Frames/c.Colours*c.Colours == c.Frames &&
		slices.Contains([]int{1, 2, 4, 8, 16, 32, 64, 128, 256, 512, 1024, 2048, 4096}, c.L1Sets) &&
		c.Ways > 0 && c.Ways < 17 && c.L1Ways > 0 && c.L1Ways < 17 && c.TLB > 0 && c.TLB < 65 && len(c.Parts) > 0 && len(c.Parts) < 9
}

func naiveColours(c api.Config, p int) bool {
	l := c.Parts[p].Colours
	for i, n := range l {
		if n < 0 || n >= c.Colours || i > 0 && l[i-1] >= n {
			return false
		}
		for q := range p {
			if slices.Contains(c.Parts[q].Colours, n) {
				return false
			}
		}
	}
	return len(l) != 0
}

func naiveQuotas(c api.Config, p int) bool {
	part, sum := c.Parts[p], 0
	for q := 0; q <= p; q++ {
		if n := c.Parts[q].Slots; n > 0 && n < 1025 {
			sum += n
		}
	}
	for _, x := range [][3]int{{0, part.Order, 3}, {2, part.User, 4096}, {4, part.Tables, 4096}, {1, part.Spaces, 4096}, {1, part.Regions, 4096}, {1, part.Records, 4096}, {1, part.Slots, 1024}} {
		if x[1] < x[0] || x[1] > x[2] {
			return false
		}
	}
	return sum <= 1024
}

func naiveRoom(c api.Config, p int) bool {
	part := c.Parts[p]
	image := []int{1, 2, 4, 8}[part.Order]
	return image*c.Colours <= c.Frames && image+part.User+part.Tables+part.Spaces+part.Regions+part.Records <= naiveTotal(c, p)
}

func naiveTotal(c api.Config, p int) int {
	n := 0
	for frame := range c.Frames {
		if slices.Contains(c.Parts[p].Colours, frame%c.Colours) {
			n++
		}
	}
	return n
}

func naiveLimit(part api.Part) int {
	n := part.User + part.Slots - 1
	if 16*part.Records < n {
		n = 16 * part.Records
	}
	return n
}

func naiveShape(part api.Part) api.Shape {
	return api.Shape{Image: []int{1, 2, 4, 8}[part.Order], User: part.User, Limit: naiveLimit(part), Nodes: part.Tables}
}

func naiveMost(c api.Config, p int) uint64 {
	n, e := cost.Most(c.Costs, naiveShape(c.Parts[p]))
	if e != api.OK {
		panic(fmt.Sprintf("cost.Most of the partition %d of %+v: %d", p, c, e))
	}
	return n
}

// dice are numbers that look like chance, the same ones in each run.
type dice uint64

// from is a number from a to b.
func (d *dice) from(a, b int) int {
	*d = *d*6364136223846793005 + 1442695040888963407
	return a + int(uint64(*d)>>33%uint64(b-a+1))
}

// shuffle is the numbers below n, in any order.
func (d *dice) shuffle(n int) []int {
	l := make([]int, n)
	for i := range l {
		at := d.from(0, i)
		l[i] = l[at]
		l[at] = i
	}
	return l
}

// machine is sizes and costs that may be, with at least 10 frames of each colour.
func (d *dice) machine() api.Config {
	c := api.Config{Colours: 1 << d.from(0, 4), Ways: d.from(1, 16), L1Sets: 1 << d.from(0, 12), L1Ways: d.from(1, 16), TLB: d.from(1, 64), First: uint64(d.from(0, 1000))}
	c.Frames = c.Colours * d.from(10, min(60, 4096/c.Colours))
	c.Costs = api.Costs{Miss: uint64(d.from(1, 100)), Fault: uint64(d.from(1, 500)), Step: uint64(d.from(1, 20)), Disk: uint64(d.from(1, 2000))}
	c.Costs.LLC = uint64(d.from(1, int(c.Costs.Miss)))
	c.Costs.L1 = uint64(d.from(1, int(c.Costs.LLC)))
	return c
}

// part is a partition with some colours, whose quotas fill the frames from barely to wholly.
func (d *dice) part(c api.Config, colours []int) api.Part {
	part := api.Part{Colours: colours, User: 2, Tables: 4, Spaces: 1, Regions: 1, Records: 1, Slots: d.from(1, 128)}
	each := c.Frames / c.Colours
	left := each*len(colours) - 9
	for part.Order < 3 && 2<<part.Order <= each && 2<<part.Order <= left && d.from(0, 1) == 1 {
		part.Order++
	}
	left -= 1 << part.Order
	for _, n := range []*int{&part.User, &part.Tables, &part.Spaces, &part.Regions, &part.Records} {
		more := d.from(0, left)
		*n += more
		left -= more
	}
	if d.from(0, 2) == 0 {
		part.User += left
	}
	return part
}

// config is one that may be; its slice and its pad are often just long enough.
func (d *dice) config() api.Config {
	c := d.machine()
	colours := d.shuffle(c.Colours)
	for len(colours) > 0 && len(c.Parts) < 8 && (len(c.Parts) == 0 || d.from(0, 5) > 0) {
		n := d.from(1, min(4, len(colours)))
		l := slices.Sorted(slices.Values(colours[:n]))
		c.Parts = append(c.Parts, d.part(c, l))
		colours = colours[n:]
	}
	for range d.from(1, 64) {
		c.Turns = append(c.Turns, d.from(0, len(c.Parts)-1))
	}
	for p := range c.Parts {
		c.Slice = max(c.Slice, naiveMost(c, p))
	}
	c.Pad = uint64(c.L1Sets*c.L1Ways+c.TLB) * c.Costs.Step
	if d.from(0, 1) == 1 {
		c.Slice += uint64(d.from(0, 1000))
		c.Pad += uint64(d.from(0, 1000))
	}
	return c
}

// spoil changes a few numbers or lists, to others that lie near an end or far away.
func (d *dice) spoil(c api.Config) api.Config {
	c = clone(c)
	for range d.from(1, 3) {
		d.spoilOnce(&c)
	}
	return c
}

func (d *dice) near(n int) int {
	l := append(far(), 0, 1, 2, 3, 4, 5, 8, 15, 16, 17, 63, 64, 65, 1023, 1024, 1025, 4095, 4096, 4097)
	if d.from(0, 1) == 1 {
		return n + d.from(-2, 2)
	}
	return l[d.from(0, len(l)-1)]
}

func (d *dice) nearTime(n uint64) uint64 {
	l := append(farTimes(), 0, 1, 1<<16, 1<<16+1, 1<<22, 1<<22+1, 1<<40-1, 1<<40)
	if d.from(0, 1) == 1 {
		return n + uint64(d.from(0, 2)) - 1
	}
	return l[d.from(0, len(l)-1)]
}

func (d *dice) spoilOnce(c *api.Config) {
	switch d.from(0, 7) {
	case 0:
		n := sizes(c)[d.from(0, 5)]
		*n = d.near(*n)
	case 1:
		n := prices(c)[d.from(0, 5)]
		*n = d.nearTime(*n)
	case 2:
		n := times(c)[d.from(0, 2)]
		*n = d.nearTime(*n)
	case 3:
		if len(c.Turns) > 0 {
			c.Turns[d.from(0, len(c.Turns)-1)] = d.near(len(c.Parts))
		}
	case 4:
		c.Turns = make([]int, d.from(0, 66))
	case 5:
		l := make([]api.Part, d.from(0, 10))
		c.Parts = l[:max(copy(l, c.Parts), d.from(0, len(l)))]
	default:
		if len(c.Parts) > 0 {
			d.spoilPart(c, &c.Parts[d.from(0, len(c.Parts)-1)])
		}
	}
}

func (d *dice) spoilPart(c *api.Config, part *api.Part) {
	switch d.from(0, 3) {
	case 0:
		part.Colours = c.Parts[d.from(0, len(c.Parts)-1)].Colours
	case 1:
		l := slices.Clone(part.Colours)
		if len(l) > 0 {
			l[d.from(0, len(l)-1)] = d.near(c.Colours)
		}
		part.Colours = l
	default:
		n := quotas(part)[d.from(0, 6)]
		*n = d.near(*n)
	}
}

// many calls f with configurations that may be.
func many(f func(c api.Config)) {
	for _, c := range []api.Config{usual(), least(), greatest(), one()} {
		f(c)
	}
	d := dice(11)
	for range 500 {
		f(d.config())
	}
}

// P11.1

func TestP11_1Examples(t *testing.T) {
	faults(t, usual())
	for _, x := range []struct {
		change func(c *api.Config)
		want   api.Fault
	}{
		{func(c *api.Config) { c.Colours = 3 }, fault(api.ErrMachine, 0)},
		{func(c *api.Config) { c.Frames = 66 }, fault(api.ErrMachine, 0)},
		{func(c *api.Config) { c.Pad = 11 }, fault(api.ErrSlice, 2)},
		{func(c *api.Config) { c.Slice = 100 }, fault(api.ErrSlice, 2)},
		{func(c *api.Config) { c.Turns = []int{0, 2} }, fault(api.ErrTurns, 3)},
		{func(c *api.Config) { c.Turns = nil }, fault(api.ErrTurns, 3)},
		{func(c *api.Config) { c.Parts[1].Colours = []int{1} }, fault(api.ErrColour, 5)},
		{func(c *api.Config) { c.Parts[1].Colours = []int{2, 2} }, fault(api.ErrColour, 5)},
		{func(c *api.Config) { c.Parts[0].User = 40 }, fault(api.ErrQuota, 4)},
		{func(c *api.Config) { c.Parts[0].Order = 4 }, fault(api.ErrQuota, 4)},
		{func(c *api.Config) { c.Parts[0].Slots = 1022 }, fault(api.ErrQuota, 5)},
	} {
		faults(t, with(usual(), x.change), x.want)
	}
}

func TestP11_1MayBe(t *testing.T) {
	many(func(c api.Config) { faults(t, c) })
}

func TestP11_1AsTheTable(t *testing.T) {
	d := dice(1)
	for range 60000 {
		c := d.spoil(d.config())
		faults(t, c, naive(c)...)
	}
}

// Every size around its ends, with frames and colours set together.
func TestP11_1Sizes(t *testing.T) {
	for n := -2; n <= 4100; n++ {
		power := slices.Contains([]int{1, 2, 4, 8, 16, 32, 64, 128, 256, 512, 1024, 2048, 4096}, n)
		for field, may := range []bool{n >= 1 && n <= 4096 && n%4 == 0, power && n <= 16, n >= 1 && n <= 16, power, n >= 1 && n <= 16, n >= 1 && n <= 64} {
			c := usual()
			c.Pad = 1 << 22
			*sizes(&c)[field] = n
			want := api.ErrMachine
			if may {
				want = api.OK
			}
			partly(t, c, 0, want)
		}
	}
	for _, n := range far() {
		for field := range 6 {
			c := usual()
			*sizes(&c)[field] = n
			partly(t, c, 0, api.ErrMachine)
		}
	}
	for colours := 1; colours <= 16; colours *= 2 {
		for frames := 1; frames <= 100; frames++ {
			want := api.ErrMachine
			if frames%colours == 0 {
				want = api.OK
			}
			partly(t, with(usual(), func(c *api.Config) { c.Frames, c.Colours = frames, colours }), 0, want)
		}
	}
	partly(t, with(usual(), func(c *api.Config) { c.Frames, c.Colours = 4096, 16 }), 0, api.OK)
	partly(t, with(usual(), func(c *api.Config) { c.Frames, c.Colours = 4112, 16 }), 0, api.ErrMachine)
	partly(t, with(usual(), func(c *api.Config) { c.Frames, c.Colours = 0, 16 }), 0, api.ErrMachine)
	partly(t, with(usual(), func(c *api.Config) { c.Frames, c.Colours = 64, 32 }), 0, api.ErrMachine)
}

func TestP11_1HowManyPartitions(t *testing.T) {
	for n := range 20 {
		c := with(greatest(), func(c *api.Config) { c.Parts = append(c.Parts, make([]api.Part, 12)...)[:n] })
		c.Turns = []int{0}
		switch {
		case n == 0:
			faults(t, c, fault(api.ErrMachine, 0), fault(api.ErrTurns, 3))
		case n <= 8:
			faults(t, c)
		default:
			faults(t, c, fault(api.ErrMachine, 0))
		}
	}
}

// Of more partitions than there may be the first eight are looked at alone, but all have a number that a turn may tell.
func TestP11_1PartitionsBehindTheLast(t *testing.T) {
	c := with(greatest(), func(c *api.Config) {
		c.Parts = append(c.Parts, api.Part{Slots: -5}, api.Part{Colours: []int{0}})
		c.Parts[7].Slots = 129
		c.Turns = []int{9, 8}
	})
	faults(t, c, fault(api.ErrMachine, 0), fault(api.ErrQuota, 11))
	c.Turns[1] = 10
	faults(t, c, fault(api.ErrMachine, 0), fault(api.ErrTurns, 3), fault(api.ErrQuota, 11))
	c.Parts = make([]api.Part, 1<<16)
	want := []api.Fault{fault(api.ErrMachine, 0)}
	for p := range 8 {
		want = append(want, fault(api.ErrColour, 4+p))
	}
	faults(t, c, want...)
}

func TestP11_1Costs(t *testing.T) {
	for field := range 6 {
		for _, n := range append(farTimes(), 0, 65537) {
			c := usual()
			*prices(&c)[field] = n
			faults(t, c, fault(api.ErrCost, 1))
		}
	}
	faults(t, with(usual(), func(c *api.Config) { c.Costs.L1 = 5 }), fault(api.ErrCost, 1))
	faults(t, with(usual(), func(c *api.Config) { c.Costs.Miss = 3 }), fault(api.ErrCost, 1))
	faults(t, with(usual(), func(c *api.Config) { c.Costs.Miss = 65536 }), fault(api.ErrSlice, 2))
}

func TestP11_1TimesAtTheirEnds(t *testing.T) {
	for field, last := range []uint64{1 << 22, 1 << 22, 1<<40 - 1} {
		for _, n := range append(farTimes(), last+1, last+2, 1<<40) {
			if n <= last {
				continue
			}
			c := usual()
			*times(&c)[field] = n
			faults(t, c, fault(api.ErrSlice, 2))
		}
		c := usual()
		*times(&c)[field] = last
		faults(t, c)
	}
	faults(t, with(usual(), func(c *api.Config) { c.Slice = 0 }), fault(api.ErrSlice, 2))
	faults(t, with(usual(), func(c *api.Config) { c.Slice = 1 }), fault(api.ErrSlice, 2))
}

// A pad suffices for all lines and translations, and not for one less.
func TestP11_1Pad(t *testing.T) {
	many(func(c api.Config) {
		c.Pad = uint64(c.L1Sets*c.L1Ways+c.TLB) * c.Costs.Step
		faults(t, c)
		c.Pad--
		faults(t, c, fault(api.ErrSlice, 2))
	})
	c := greatest()
	c.Pad = 65600 * 63
	faults(t, c)
	c.Costs.Step = 64 // more than the longest pad
	c.Pad = 1 << 22
	faults(t, c, fault(api.ErrSlice, 2))
}

// A slice suffices for the dearest call of the partition with the dearest ones, and not for one cycle less, whichever partition that is.
func TestP11_1Slice(t *testing.T) {
	many(func(c api.Config) {
		c.Slice = 0
		for p := range c.Parts {
			c.Slice = max(c.Slice, naiveMost(c, p))
		}
		faults(t, c)
		c.Slice--
		faults(t, c, fault(api.ErrSlice, 2))
	})
	for p := range 8 {
		c := with(greatest(), func(c *api.Config) { c.Parts[p].Tables++; c.Parts[p].Spaces--; c.Slice = 0 })
		c.Slice = naiveMost(c, p)
		faults(t, c)
		c.Slice--
		faults(t, c, fault(api.ErrSlice, 2))
	}
}

// The document's slice: a fork of the partition 0 costs most, of pages up to its limit.
func TestP11_1SliceByHand(t *testing.T) {
	fork := uint64(2*10 + 10 + 16*8*10 + 6*(1+2*10))
	faults(t, with(usual(), func(c *api.Config) { c.Slice = fork }))
	faults(t, with(usual(), func(c *api.Config) { c.Slice = fork - 1 }), fault(api.ErrSlice, 2))
	faults(t, least())
	faults(t, with(least(), func(c *api.Config) { c.Slice = 192 }), fault(api.ErrSlice, 2)) // an unmap: 1 + 64 * 3
	faults(t, with(least(), func(c *api.Config) { c.Pad = 1 }), fault(api.ErrSlice, 2))
}

// Where the sizes or the costs are wrong, a slice and a pad need only lie between their ends.
func TestP11_1SliceOfWhatCannotBeReckoned(t *testing.T) {
	short := with(usual(), func(c *api.Config) { c.Slice, c.Pad = 1, 0 })
	faults(t, short, fault(api.ErrSlice, 2))
	faults(t, with(short, func(c *api.Config) { c.Ways = 0 }), fault(api.ErrMachine, 0))
	faults(t, with(short, func(c *api.Config) { c.Costs.Disk = 0 }), fault(api.ErrCost, 1))
	faults(t, with(short, func(c *api.Config) { c.Ways, c.Costs.Disk = 0, 0 }), fault(api.ErrMachine, 0), fault(api.ErrCost, 1))
	faults(t, with(short, func(c *api.Config) { c.Ways, c.Slice = 0, 0 }), fault(api.ErrMachine, 0), fault(api.ErrSlice, 2))
	faults(t, with(short, func(c *api.Config) { c.Costs.Disk, c.Slice = 0, 1<<22+1 }), fault(api.ErrCost, 1), fault(api.ErrSlice, 2))
	faults(t, with(short, func(c *api.Config) { c.Costs.Disk, c.First = 0, 1<<40 }), fault(api.ErrCost, 1), fault(api.ErrSlice, 2))
}

// A partition with which something is wrong needs no slice; nor do turns that are wrong matter.
func TestP11_1SliceWithoutWrongPartitions(t *testing.T) {
	second := naiveMost(usual(), 1)
	c := with(usual(), func(c *api.Config) { c.Slice = second })
	faults(t, c, fault(api.ErrSlice, 2))
	c.Parts[0].Order = 4
	faults(t, c, fault(api.ErrQuota, 4))
	c.Parts[0].Order, c.Parts[0].Colours = 1, []int{0, 4}
	faults(t, c, fault(api.ErrColour, 4))
	c.Slice--
	faults(t, c, fault(api.ErrSlice, 2), fault(api.ErrColour, 4))
	c.Turns = nil
	faults(t, c, fault(api.ErrSlice, 2), fault(api.ErrTurns, 3), fault(api.ErrColour, 4))
	c.Parts[1].Slots = 0
	faults(t, c, fault(api.ErrTurns, 3), fault(api.ErrColour, 4), fault(api.ErrQuota, 5))
	c.Pad = 11
	faults(t, c, fault(api.ErrSlice, 2), fault(api.ErrTurns, 3), fault(api.ErrColour, 4), fault(api.ErrQuota, 5))
}

func TestP11_1Turns(t *testing.T) {
	for n := range 70 {
		c := usual()
		c.Turns = make([]int, n)
		if n >= 1 && n <= 64 {
			faults(t, c)
		} else {
			faults(t, c, fault(api.ErrTurns, 3))
		}
	}
	for at := range 64 {
		for _, p := range append(far(), 2, 3, 8) {
			c := usual()
			c.Turns = make([]int, 64)
			c.Turns[at] = p
			faults(t, c, fault(api.ErrTurns, 3))
		}
	}
	faults(t, with(usual(), func(c *api.Config) { c.Turns = []int{1} }))
	faults(t, with(usual(), func(c *api.Config) { c.Turns = make([]int, 1<<20) }), fault(api.ErrTurns, 3))
}

func TestP11_1Colours(t *testing.T) {
	for _, l := range [][]int{{2}, {3}, {2, 3}} {
		faults(t, with(usual(), func(c *api.Config) { c.Parts[1].Colours = l }))
	}
	wrong := [][]int{nil, {}, {0}, {1}, {0, 1}, {0, 2}, {1, 2}, {1, 3}, {3, 2}, {2, 2}, {3, 3}, {2, 3, 3}, {2, 3, 2}, {4}, {2, 4}, {2, 3, 4}, {-1}, {-1, 2}, {2, 1}, {3, 0}}
	for _, n := range far() {
		wrong = append(wrong, []int{n}, []int{n, 2}, []int{2, n}, []int{2, 3, n})
	}
	for _, l := range wrong {
		faults(t, with(usual(), func(c *api.Config) { c.Parts[1].Colours = l }), fault(api.ErrColour, 5))
	}
}

// A colour has one owner, whichever two of eight partitions name it: the one with the greater number is wrong.
func TestP11_1ColoursOfTwo(t *testing.T) {
	for p := range 8 {
		for q := range p {
			for _, n := range []int{q, q + 8} {
				c := greatest()
				c.Parts[p].Colours = slices.Sorted(slices.Values([]int{n, p, p + 8}))
				faults(t, c, fault(api.ErrColour, 4+p))
			}
		}
	}
}

// A wrong partition's list counts for those behind it all the same, whatever is wrong with it, and in whatever order it stands.
func TestP11_1ColoursOfWrongPartitions(t *testing.T) {
	for _, l := range [][]int{{3, 2}, {2, 2}, {9, 2}, {2, -4}, {-7, 2}, {5, 2, 0}} {
		c := with(usual(), func(c *api.Config) { c.Parts[0].Colours = l })
		faults(t, c, fault(api.ErrColour, 4), fault(api.ErrColour, 5))
	}
	c := with(usual(), func(c *api.Config) { c.Parts[0].Colours = []int{1, 0} })
	faults(t, c, fault(api.ErrColour, 4))
	c = with(usual(), func(c *api.Config) { c.Parts[0].Order, c.Parts[1].Colours = 9, []int{0} })
	faults(t, c, fault(api.ErrQuota, 4), fault(api.ErrColour, 5))
	three := with(usual(), func(c *api.Config) {
		c.Parts = append(c.Parts, c.Parts[1])
		c.Parts[1].Colours = []int{1, 3}
		c.Parts[2].Colours = []int{3}
	})
	faults(t, three, fault(api.ErrColour, 5), fault(api.ErrColour, 6))
}

// Colours are held against the machine's number of them, whether that may be or not.
func TestP11_1ColoursOfWrongMachines(t *testing.T) {
	faults(t, with(usual(), func(c *api.Config) { c.Colours = 2 }), fault(api.ErrColour, 5))
	for _, n := range []int{0, -1, math.MinInt} {
		faults(t, with(usual(), func(c *api.Config) { c.Colours = n }), fault(api.ErrMachine, 0), fault(api.ErrColour, 4), fault(api.ErrColour, 5))
	}
	c := with(usual(), func(c *api.Config) {
		c.Colours = math.MaxInt
		c.Parts[1].Colours = []int{2, 1 << 40, math.MaxInt - 1}
	})
	faults(t, c, fault(api.ErrMachine, 0))
	c.Parts[1].Colours[2]++
	faults(t, c, fault(api.ErrMachine, 0), fault(api.ErrColour, 5))
}

func TestP11_1LongListsOfColours(t *testing.T) {
	long := make([]int, 1<<20)
	for i := range long {
		long[i] = i
	}
	c := greatest()
	c.Colours = 1 << 30
	for p := range c.Parts {
		c.Parts[p].Colours = long
	}
	want := []api.Fault{fault(api.ErrMachine, 0)}
	for p := 1; p < 8; p++ {
		want = append(want, fault(api.ErrColour, 4+p))
	}
	faults(t, c, want...)
	c = usual()
	c.Colours = 1 << 30
	c.Parts[0].Colours, c.Parts[1].Colours = long[:1<<19], long[1<<19:]
	faults(t, c, fault(api.ErrMachine, 0))
	c.Parts[1].Colours = long[1<<19-1:]
	faults(t, c, fault(api.ErrMachine, 0), fault(api.ErrColour, 5))
}

// Each quota alone, around its ends, where the frames do not matter: there is something wrong with the machine's sizes.
func TestP11_1Quotas(t *testing.T) {
	ends := [][2]int{{0, 3}, {2, 4096}, {4, 4096}, {1, 4096}, {1, 4096}, {1, 4096}, {1, 1021}}
	for field, x := range ends {
		for n := -3; n <= 4100; n++ {
			c := with(usual(), func(c *api.Config) { c.TLB = 0; *quotas(&c.Parts[1])[field] = n })
			if n >= x[0] && n <= x[1] {
				faults(t, c, fault(api.ErrMachine, 0))
			} else {
				faults(t, c, fault(api.ErrMachine, 0), fault(api.ErrQuota, 5))
			}
		}
		for _, n := range far() {
			for p := range 2 {
				c := with(usual(), func(c *api.Config) { *quotas(&c.Parts[p])[field] = n })
				faults(t, c, fault(api.ErrQuota, 4+p))
			}
		}
	}
	all := with(usual(), func(c *api.Config) {
		c.TLB = 0
		c.Parts[0] = api.Part{Colours: []int{0}, Order: 3, User: 4096, Tables: 4096, Spaces: 4096, Regions: 4096, Records: 4096, Slots: 1024}
	})
	faults(t, all, fault(api.ErrMachine, 0), fault(api.ErrQuota, 5)) // no slots are left
}

// Slots are counted together with those of the partitions ahead, if they may be, whatever else is wrong there.
func TestP11_1SlotsTogether(t *testing.T) {
	slots := func(l ...int) api.Config {
		c := greatest()
		for p, n := range l {
			c.Parts[p].Slots = n
		}
		c.Parts, c.Turns = c.Parts[:len(l)], []int{0}
		return c
	}
	faults(t, slots(1024))
	faults(t, slots(1025), fault(api.ErrQuota, 4))
	faults(t, slots(1023, 1))
	faults(t, slots(1024, 1), fault(api.ErrQuota, 5))
	faults(t, slots(1, 1024), fault(api.ErrQuota, 5))
	faults(t, slots(1, 1023, 1), fault(api.ErrQuota, 6))
	faults(t, slots(1000, 1000, 10), fault(api.ErrQuota, 5), fault(api.ErrQuota, 6))
	faults(t, slots(128, 128, 128, 128, 128, 128, 128, 129), fault(api.ErrQuota, 11))
	faults(t, slots(129, 128, 128, 128, 128, 128, 128, 128), fault(api.ErrQuota, 11))
	for _, n := range append(far(), 0, 1025) {
		faults(t, slots(n, 1024), fault(api.ErrQuota, 4))
		faults(t, slots(24, n, 1000), fault(api.ErrQuota, 5))
		faults(t, slots(24, n, 1001), fault(api.ErrQuota, 5), fault(api.ErrQuota, 6))
	}
	c := slots(24, 1001)
	c.Parts[0].Colours = nil
	faults(t, c, fault(api.ErrColour, 4), fault(api.ErrQuota, 5))
	c = slots(24, 1001)
	c.Parts[0].Order = -1
	faults(t, c, fault(api.ErrQuota, 4), fault(api.ErrQuota, 5))
}

// An image has one colour's frames, however many the partition has of others.
func TestP11_1Image(t *testing.T) {
	for order := range 4 {
		for frames := 1; frames <= 12; frames++ {
			c := least()
			c.Colours, c.Frames, c.Slice = 16, 16*frames, 4000
			c.Parts[0].Order = order
			c.Parts[0].Colours = one().Parts[0].Colours
			if fits := frames >= 1<<order && 16*frames >= 9+1<<order; fits {
				faults(t, c)
			} else {
				faults(t, c, fault(api.ErrQuota, 4))
			}
		}
	}
}

// All quotas together may be as many as the total, and not one more, whichever of them that is.
func TestP11_1QuotasTogether(t *testing.T) {
	many(func(c api.Config) {
		for p, part := range c.Parts {
			spare := naiveTotal(c, p) - 1<<part.Order - part.User - part.Tables - part.Spaces - part.Regions - part.Records
			for field := 1; field < 6; field++ {
				x := with(c, func(c *api.Config) { *quotas(&c.Parts[p])[field] += spare; c.Slice = 1 << 22 })
				faults(t, x)
				*quotas(&x.Parts[p])[field]++
				faults(t, x, fault(api.ErrQuota, 4+p))
				x.L1Sets = 3 // so that the frames do not matter any more
				faults(t, x, fault(api.ErrMachine, 0))
			}
		}
	})
	image := with(least(), func(c *api.Config) { c.Parts[0].Order = 1 })
	faults(t, image, fault(api.ErrQuota, 4))
	image.Frames, image.Slice = 11, 194
	faults(t, image)
}

// Of a partition with several things wrong colours come first, and each thing is told once.
func TestP11_1OneFaultAThing(t *testing.T) {
	c := api.Config{Parts: []api.Part{{}, {Colours: []int{5}, Slots: -1}}, Turns: []int{7, 8}, First: 1 << 50}
	faults(t, c, fault(api.ErrMachine, 0), fault(api.ErrCost, 1), fault(api.ErrSlice, 2), fault(api.ErrTurns, 3), fault(api.ErrColour, 4), fault(api.ErrColour, 5))
	faults(t, api.Config{}, fault(api.ErrMachine, 0), fault(api.ErrCost, 1), fault(api.ErrSlice, 2), fault(api.ErrTurns, 3))
	all := greatest()
	var want []api.Fault
	for p := range 8 {
		want = append(want, fault(api.ErrQuota, 4+p))
		all.Parts[p] = api.Part{Colours: []int{p}}
	}
	faults(t, all, want...)
}

func TestP11_1NewMemory(t *testing.T) {
	c := with(usual(), func(c *api.Config) { c.Parts[0].Order, c.Parts[1].Order = 4, 4 })
	l := plan.Check(c)
	l[0], l[1] = api.Fault{}, api.Fault{}
	faults(t, c, fault(api.ErrQuota, 4), fault(api.ErrQuota, 5))
}

// P11.2

func TestP11_2Examples(t *testing.T) {
	for _, x := range []struct {
		colour, p int
		is        bool
		e         api.Errno
	}{{0, 0, true, api.OK}, {1, 0, true, api.OK}, {2, 1, true, api.OK}, {3, 0, false, api.OK}, {4, 0, false, api.ErrArg}, {-1, 0, false, api.ErrArg}} {
		if p, is, e := plan.Owner(usual(), x.colour); p != x.p || is != x.is || e != x.e {
			t.Errorf("Owner(c, %d) = %d, %v, %d", x.colour, p, is, e)
		}
	}
}

func TestP11_2EachColour(t *testing.T) {
	many(func(c api.Config) {
		for n := range c.Colours {
			want, owned := 0, false
			for p, part := range c.Parts {
				if slices.Contains(part.Colours, n) {
					want, owned = p, true
				}
			}
			if p, is, e := plan.Owner(c, n); p != want || is != owned || e != api.OK {
				t.Fatalf("Owner(%+v, %d) = %d, %v, %d", c, n, p, is, e)
			}
		}
	})
}

func TestP11_2WrongColours(t *testing.T) {
	many(func(c api.Config) {
		for _, n := range append(far(), c.Colours, c.Colours+1) {
			if p, is, e := plan.Owner(c, n); p != 0 || is || e != api.ErrArg {
				t.Fatalf("Owner(%+v, %d) = %d, %v, %d", c, n, p, is, e)
			}
		}
	})
}

// P11.3

// numbers are the calls that answer a number of a partition.
func numbers() map[string]func(c api.Config, p int) (int, api.Errno) {
	return map[string]func(c api.Config, p int) (int, api.Errno){"Total": plan.Total, "Limit": plan.Limit, "Base": plan.Base}
}

func TestP11_3Examples(t *testing.T) {
	for call, want := range map[string][2]int{"Total": {32, 16}, "Limit": {6, 4}, "Base": {0, 3}} {
		for p, n := range want {
			if got, e := numbers()[call](usual(), p); got != n || e != api.OK {
				t.Errorf("%s(c, %d) = %d, %d; want %d", call, p, got, e, n)
			}
		}
	}
	if n, e := plan.Slots(usual()); n != 6 || e != api.OK {
		t.Errorf("Slots(c) = %d, %d", n, e)
	}
	for p, want := range []api.Shape{{Image: 2, User: 4, Limit: 6, Nodes: 8}, {Image: 1, User: 2, Limit: 4, Nodes: 6}} {
		if s, e := plan.Shape(usual(), p); s != want || e != api.OK {
			t.Errorf("Shape(c, %d) = %+v, %d; want %+v", p, s, e, want)
		}
	}
}

func TestP11_3Many(t *testing.T) {
	many(func(c api.Config) {
		base := 0
		for p, part := range c.Parts {
			for call, want := range map[string]int{"Total": naiveTotal(c, p), "Limit": naiveLimit(part), "Base": base} {
				if n, e := numbers()[call](c, p); n != want || e != api.OK {
					t.Fatalf("%s(%+v, %d) = %d, %d; want %d", call, c, p, n, e, want)
				}
			}
			if s, e := plan.Shape(c, p); s != naiveShape(part) || e != api.OK {
				t.Fatalf("Shape(%+v, %d) = %+v, %d", c, p, s, e)
			}
			base += part.Slots
		}
		if n, e := plan.Slots(c); n != base || e != api.OK {
			t.Fatalf("Slots(%+v) = %d, %d; want %d", c, n, e, base)
		}
	})
}

// The lesser one is the limit, on both sides of where the two are as many.
func TestP11_3Limit(t *testing.T) {
	for records := 1; records <= 4; records++ {
		for slots := 1; slots <= 70; slots++ {
			c := with(usual(), func(c *api.Config) { c.Parts[0].Records, c.Parts[0].Slots = records, slots })
			want := 3 + slots
			if want > 16*records {
				want = 16 * records
			}
			if n, e := plan.Limit(c, 0); n != want || e != api.OK {
				t.Fatalf("%d records, %d slots: Limit = %d, %d; want %d", records, slots, n, e, want)
			}
			if s, e := plan.Shape(c, 0); s.Limit != want || e != api.OK {
				t.Fatalf("%d records, %d slots: Shape = %+v, %d; want %d", records, slots, s, e, want)
			}
		}
	}
}

func TestP11_3WrongPartitions(t *testing.T) {
	many(func(c api.Config) {
		for _, p := range append(far(), len(c.Parts), len(c.Parts)+1, 8) {
			for call, f := range numbers() {
				if n, e := f(c, p); n != 0 || e != api.ErrPart {
					t.Fatalf("%s(%+v, %d) = %d, %d", call, c, p, n, e)
				}
			}
			if s, e := plan.Shape(c, p); s != (api.Shape{}) || e != api.ErrPart {
				t.Fatalf("Shape(%+v, %d) = %+v, %d", c, p, s, e)
			}
		}
	})
}

// Whatever is wrong with a configuration, and whatever else is asked wrongly, the calls answer ErrPlan and nothing else.
func TestP11_3ConfigurationsAhead(t *testing.T) {
	wrong := []api.Config{{}, with(greatest(), func(c *api.Config) { c.Parts = append(c.Parts, c.Parts[0]) })}
	d := dice(2)
	for len(wrong) < 500 {
		if c := d.spoil(d.config()); len(naive(c)) > 0 {
			wrong = append(wrong, c)
		}
	}
	for _, c := range wrong {
		for _, p := range []int{0, 1, 2, 7, 8, -1, math.MaxInt, math.MinInt} {
			for call, f := range numbers() {
				if n, e := f(c, p); n != 0 || e != api.ErrPlan {
					t.Fatalf("%s(%+v, %d) = %d, %d", call, c, p, n, e)
				}
			}
			if s, e := plan.Shape(c, p); s != (api.Shape{}) || e != api.ErrPlan {
				t.Fatalf("Shape(%+v, %d) = %+v, %d", c, p, s, e)
			}
			if o, is, e := plan.Owner(c, p); o != 0 || is || e != api.ErrPlan {
				t.Fatalf("Owner(%+v, %d) = %d, %v, %d", c, p, o, is, e)
			}
		}
		if n, e := plan.Slots(c); n != 0 || e != api.ErrPlan {
			t.Fatalf("Slots(%+v) = %d, %d", c, n, e)
		}
	}
}

// ask asks everything once.
func ask(c api.Config, p int) []any {
	l := []any{plan.Check(c), plan.May(c)}
	for _, call := range []string{"Total", "Limit", "Base"} {
		n, e := numbers()[call](c, p)
		l = append(l, n, e)
	}
	s, se := plan.Shape(c, p)
	o, is, oe := plan.Owner(c, p)
	n, e := plan.Slots(c)
	return append(l, s, se, o, is, oe, n, e)
}

// What is handed in is only read, its spare room too; answers do not hang on what was asked ahead, nor on whether a list without elements is nil.
func TestP11_3OnlyRead(t *testing.T) {
	d := dice(3)
	for range 2000 {
		c := d.config()
		if d.from(0, 1) == 1 {
			c = d.spoil(c)
		}
		c.Turns = slices.Grow(c.Turns, 5)
		c.Parts = slices.Grow(c.Parts, 2)
		before := clone(c)
		turns, parts := slices.Clone(c.Turns[:cap(c.Turns)]), slices.Clone(c.Parts[:cap(c.Parts)])
		p := d.from(-1, 8)
		first := ask(c, p)
		if !reflect.DeepEqual(c.Turns[:cap(c.Turns)], turns) || !reflect.DeepEqual(c.Parts[:cap(c.Parts)], parts) || !reflect.DeepEqual(naive(c), naive(before)) {
			t.Fatalf("%+v has changed to %+v", before, c)
		}
		if again := ask(before, p); !reflect.DeepEqual(first, again) {
			t.Fatalf("%+v, %d: %v, then %v", c, p, first, again)
		}
	}
	none := with(usual(), func(c *api.Config) { c.Turns, c.Parts = []int{}, []api.Part{} })
	faults(t, none, fault(api.ErrMachine, 0), fault(api.ErrTurns, 3))
	none.Turns, none.Parts = nil, nil
	faults(t, none, fault(api.ErrMachine, 0), fault(api.ErrTurns, 3))
}

// P11.4

func TestP11_4ColoursAndFrames(t *testing.T) {
	many(func(c api.Config) {
		owners := map[int]int{}
		for p, part := range c.Parts {
			for _, n := range part.Colours {
				if q, is := owners[n]; is {
					t.Fatalf("%+v: the colour %d has the owners %d and %d", c, n, q, p)
				}
				owners[n] = p
				if q, is, e := plan.Owner(c, n); q != p || !is || e != api.OK {
					t.Fatalf("Owner(%+v, %d) = %d, %v, %d; want %d", c, n, q, is, e, p)
				}
			}
		}
		sum := 0
		for p, part := range c.Parts {
			n, e := plan.Total(c, p)
			l, _ := colour.Frames(c.Frames, c.Colours, part.Colours)
			if e != api.OK || n != len(l) || n < 1<<part.Order+part.User+part.Tables+part.Spaces+part.Regions+part.Records {
				t.Fatalf("Total(%+v, %d) = %d, %d; it has %d frames", c, p, n, e, len(l))
			}
			sum += n
		}
		if sum > c.Frames {
			t.Fatalf("%+v: %d frames in all", c, sum)
		}
	})
}

func TestP11_4CallsFitIntoSlices(t *testing.T) {
	many(func(c api.Config) {
		for p := range c.Parts {
			s, e := plan.Shape(c, p)
			if e != api.OK {
				t.Fatalf("Shape(%+v, %d): %d", c, p, e)
			}
			for kind := range 256 {
				if n, e := cost.Worst(c.Costs, s, uint8(kind)); e != api.OK || n > c.Slice {
					t.Fatalf("%+v, the partition %d: the kind %d costs %d, %d", c, p, kind, n, e)
				}
			}
		}
		if n, e := cost.Switch(c.Costs, c.L1Sets*c.L1Ways, c.TLB); e != api.OK || n > c.Pad {
			t.Fatalf("%+v: a switch costs %d, %d", c, n, e)
		}
	})
}

func TestP11_4SlotsDoNotMeet(t *testing.T) {
	many(func(c api.Config) {
		var owners [1024]int
		for p, part := range c.Parts {
			base, e := plan.Base(c, p)
			if e != api.OK {
				t.Fatalf("Base(%+v, %d): %d", c, p, e)
			}
			for slot := base; slot < base+part.Slots; slot++ {
				owners[slot]++
				if owners[slot] != 1 {
					t.Fatalf("%+v: the slot %d is the partition %d's and another one's", c, slot, p)
				}
			}
		}
		all, e := plan.Slots(c)
		if e != api.OK || all > 1024 {
			t.Fatalf("Slots(%+v) = %d, %d", c, all, e)
		}
		for slot, n := range owners {
			if (n == 1) != (slot < all) {
				t.Fatalf("%+v: of %d slots the slot %d has %d owners", c, all, slot, n)
			}
		}
	})
}

// What is refused would break one of these: of spoiled configurations only those may be in which all of it holds.
func TestP11_4OfWhatMayBeAlone(t *testing.T) {
	d, may := dice(4), 0
	for range 20000 {
		c := d.spoil(d.config())
		if !plan.May(c) {
			continue
		}
		may++
		sum, slots := 0, 0
		for p, part := range c.Parts {
			n, _ := plan.Total(c, p)
			sum += n
			slots += part.Slots
			if most := naiveMost(c, p); most > c.Slice || !naiveColours(c, p) || !naiveRoom(c, p) {
				t.Fatalf("%+v: the partition %d has %d frames, its dearest call costs %d", c, p, n, most)
			}
		}
		if sum > c.Frames || slots > 1024 {
			t.Fatalf("%+v: %d frames, %d slots", c, sum, slots)
		}
	}
	if may < 100 {
		t.Errorf("only %d may be", may)
	}
}
