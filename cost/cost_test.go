package cost_test

import (
	"math"
	"testing"

	"cofferdam/api"
	"cofferdam/cost"
)

const (
	maxCost = uint64(api.MaxCost)
	top     = uint64(math.MaxUint64)
)

// tooDear are costs that may not be, some of which make small ones when they are added, doubled or cut.
var tooDear = []uint64{0, maxCost + 1, maxCost + 2, 2 * maxCost, 1 << 31, 1 << 32, 1<<32 + 1, 1<<63 - 1, 1 << 63, 1<<63 + 1, top - maxCost, top - 1, top}

// wrong are numbers below 0, or above the last one that may be; some of them wrap round to small ones, if they are multiplied or cut.
func wrong(last int) []int {
	l := []int{-1, -2, -4, -8, -65536, last + 1, last + 2, 2 * last, 1 << 31, 1 << 32, 1<<32 + 2, 1<<32 + 4}
	for shift := 56; shift < 63; shift++ {
		l = append(l, 1<<shift, 1<<shift+2, -1<<shift, -1<<shift+2)
	}
	return append(l, math.MaxInt, math.MaxInt-1, math.MinInt, math.MinInt+1)
}

// The document's costs and shape.
func costs() api.Costs { return api.Costs{L1: 1, LLC: 4, Miss: 20, Fault: 10, Step: 2, Disk: 100} }
func shape() api.Shape { return api.Shape{Image: 2, User: 8, Limit: 10, Nodes: 5} }

// The least and the greatest ones that may be.
func leastCosts() api.Costs { return api.Costs{L1: 1, LLC: 1, Miss: 1, Fault: 1, Step: 1, Disk: 1} }
func leastShape() api.Shape { return api.Shape{Image: 1, User: 2, Limit: 1, Nodes: 1} }
func greatestShape() api.Shape {
	return api.Shape{Image: 8, User: 4096, Limit: 5120, Nodes: 4096}
}
func greatestCosts() api.Costs {
	return api.Costs{L1: maxCost, LLC: maxCost, Miss: maxCost, Fault: maxCost, Step: maxCost, Disk: maxCost}
}

// costFields and shapeFields are the fields, so that each of them can be set alone.
func costFields(c *api.Costs) []*uint64 {
	return []*uint64{&c.L1, &c.LLC, &c.Miss, &c.Fault, &c.Step, &c.Disk}
}
func shapeFields(s *api.Shape) []*int { return []*int{&s.Image, &s.User, &s.Limit, &s.Nodes} }

func costsWith(c api.Costs, field int, n uint64) api.Costs {
	*costFields(&c)[field] = n
	return c
}

func shapeWith(s api.Shape, field, n int) api.Shape {
	*shapeFields(&s)[field] = n
	return s
}

// dice are numbers that look like chance, the same ones in each run.
type dice uint64

// from is a number from a to b.
func (d *dice) from(a, b uint64) uint64 {
	*d = *d*6364136223846793005 + 1442695040888963407
	return a + uint64(*d)>>33%(b-a+1)
}

func (d *dice) costs() api.Costs {
	most := uint64(1) << d.from(0, 16)
	c := api.Costs{Miss: d.from(1, most), Fault: d.from(1, most), Step: d.from(1, most), Disk: d.from(1, most)}
	c.LLC = d.from(1, c.Miss)
	c.L1 = d.from(1, c.LLC)
	return c
}

func (d *dice) shape() api.Shape {
	most := uint64(1) << d.from(1, 12)
	return api.Shape{Image: 1 << d.from(0, 3), User: int(d.from(2, most)), Limit: int(d.from(1, most+1024)), Nodes: int(d.from(1, most))}
}

// many calls f with costs and shapes that may be: the document's, the ends, and others by chance.
func many(f func(c api.Costs, s api.Shape)) {
	for _, c := range []api.Costs{costs(), leastCosts(), greatestCosts()} {
		for _, s := range []api.Shape{shape(), leastShape(), greatestShape()} {
			f(c, s)
		}
	}
	d := dice(10)
	for range 1000 {
		f(d.costs(), d.shape())
	}
}

// bill is how many misses, faults, steps and disk's turns a call needs at most.
type bill struct{ miss, fault, step, disk uint64 }

func (b bill) sum(c api.Costs) uint64 {
	return b.miss*c.Miss + b.fault*c.Fault + b.step*c.Step + b.disk*c.Disk
}

// naive is what the document says of a kind, counted out in single things.
func naive(c api.Costs, s api.Shape, kind uint8) uint64 {
	image, user, limit, nodes := uint64(s.Image), uint64(s.User), uint64(s.Limit), uint64(s.Nodes)
	spans := bill{miss: image + 128, step: 64}
	maps := bill{miss: image + 113}
	switch kind {
	case 1:
		return bill{miss: image + 17}.sum(c)
	case 2:
		return bill{miss: image + 2*limit + 1, step: limit}.sum(c)
	case 3:
		return bill{miss: image + 1 + 16*nodes + 2*limit, step: limit}.sum(c)
	case 4:
		return maps.sum(c)
	case 5:
		return spans.sum(c)
	case 6:
		return bill{miss: image + 64, step: 64}.sum(c)
	case 7:
		if maps.sum(c) > spans.sum(c) {
			return maps.sum(c)
		}
		return spans.sum(c)
	case 8:
		return bill{miss: image + 26, fault: 1, step: 2*user + 1, disk: 2}.sum(c)
	case 9:
		return bill{miss: image + 64, fault: 2, step: 4*user + 2, disk: 3}.sum(c)
	}
	return bill{miss: image}.sum(c)
}

func worst(t *testing.T, c api.Costs, s api.Shape, kind uint8) uint64 {
	t.Helper()
	n, e := cost.Worst(c, s, kind)
	if e != api.OK {
		t.Fatalf("Worst(%+v, %+v, %d) = %d, %d", c, s, kind, n, e)
	}
	return n
}

func most(t *testing.T, c api.Costs, s api.Shape) uint64 {
	t.Helper()
	n, e := cost.Most(c, s)
	if e != api.OK {
		t.Fatalf("Most(%+v, %+v) = %d, %d", c, s, n, e)
	}
	return n
}

// refused fails the test unless a call answered that error and nothing else.
func refused(t *testing.T, call string, n uint64, e, want api.Errno) {
	t.Helper()
	if n != 0 || e != want {
		t.Fatalf("%s = %d, %d; want 0, %d", call, n, e, want)
	}
}

// badCosts are costs that may not be: each has one number that is wrong, or two that stand wrong to one another, or nothing but noughts.
func badCosts() []api.Costs {
	l := []api.Costs{{}, {L1: 2, LLC: 1, Miss: 1, Fault: 1, Step: 1, Disk: 1}, {L1: 1, LLC: 2, Miss: 1, Fault: 1, Step: 1, Disk: 1}, {L1: 3, LLC: 2, Miss: 4, Fault: 1, Step: 1, Disk: 1}}
	for _, c := range []api.Costs{costs(), leastCosts(), greatestCosts()} {
		for field := range 6 {
			for _, n := range tooDear {
				l = append(l, costsWith(c, field, n))
			}
		}
	}
	for _, n := range tooDear {
		l = append(l, api.Costs{L1: n, LLC: n, Miss: n, Fault: 1, Step: 1, Disk: 1}, api.Costs{L1: 1, LLC: n, Miss: n, Fault: 1, Step: 1, Disk: 1})
	}
	return l
}

// badShapes are shapes that may not be: each has one number that is wrong.
func badShapes() []api.Shape {
	l := []api.Shape{{}}
	for _, s := range []api.Shape{shape(), leastShape(), greatestShape()} {
		for _, n := range append(wrong(8), 0, 3, 5, 6, 7, 16, 32, 256, 257, 258) {
			l = append(l, shapeWith(s, 0, n))
		}
		for _, n := range append(wrong(4096), 0, 1) {
			l = append(l, shapeWith(s, 1, n))
		}
		for _, n := range append(wrong(5120), 0) {
			l = append(l, shapeWith(s, 2, n))
		}
		for _, n := range append(wrong(4096), 0) {
			l = append(l, shapeWith(s, 3, n))
		}
	}
	return l
}

// P10.1

func TestP10_1Examples(t *testing.T) {
	for i, x := range []struct {
		c    api.Costs
		want api.Errno
	}{
		{costs(), api.OK},
		{costsWith(costs(), 1, 0), api.ErrCost},
		{costsWith(costs(), 2, 3), api.ErrCost},
		{costsWith(costs(), 4, 0), api.ErrCost},
		{costsWith(costs(), 5, 65537), api.ErrCost},
	} {
		if e := cost.Check(x.c); e != x.want {
			t.Errorf("%d: %d, want %d", i, e, x.want)
		}
	}
}

func TestP10_1AllNearTheEnds(t *testing.T) {
	near := []uint64{0, 1, 2, maxCost - 1, maxCost, maxCost + 1, top}
	mayBe := func(n uint64) bool { return 0 < n && n < maxCost+1 }
	for _, l1 := range near {
		for _, llc := range near {
			for _, miss := range near {
				rising := mayBe(l1) && mayBe(llc) && mayBe(miss) && l1 <= llc && llc <= miss
				for field := 3; field < 6; field++ {
					for _, n := range near {
						c := costsWith(api.Costs{L1: l1, LLC: llc, Miss: miss, Fault: 1, Step: maxCost, Disk: 7}, field, n)
						want := api.ErrCost
						if rising && mayBe(n) {
							want = api.OK
						}
						if e := cost.Check(c); e != want {
							t.Fatalf("Check(%+v) = %d, want %d", c, e, want)
						}
					}
				}
			}
		}
	}
}

func TestP10_1OthersDoNotHangOnOneAnother(t *testing.T) {
	for _, c := range []api.Costs{
		{L1: maxCost, LLC: maxCost, Miss: maxCost, Fault: 1, Step: 1, Disk: 1},
		{L1: 1, LLC: 1, Miss: 1, Fault: maxCost, Step: 1, Disk: 1},
		{L1: 1, LLC: 1, Miss: 1, Fault: 1, Step: maxCost, Disk: 1},
		{L1: 1, LLC: 1, Miss: 1, Fault: 1, Step: 1, Disk: maxCost},
		{L1: 1, LLC: maxCost, Miss: maxCost, Fault: 3, Step: 2, Disk: 1},
		{L1: 1, LLC: 1, Miss: maxCost, Fault: 1, Step: 2, Disk: 3},
	} {
		if e := cost.Check(c); e != api.OK {
			t.Errorf("Check(%+v) = %d", c, e)
		}
	}
}

func TestP10_1Wrong(t *testing.T) {
	for _, c := range badCosts() {
		refused(t, "Check", 0, cost.Check(c), api.ErrCost)
	}
	many(func(c api.Costs, _ api.Shape) {
		if e := cost.Check(c); e != api.OK {
			t.Fatalf("Check(%+v) = %d", c, e)
		}
	})
}

// P10.2

func TestP10_2Examples(t *testing.T) {
	for _, x := range []struct {
		h    api.Hit
		want uint64
	}{{api.Hit{L1: true, LLC: true}, 1}, {api.Hit{L1: true}, 1}, {api.Hit{LLC: true}, 4}, {api.Hit{}, 20}} {
		if n, e := cost.Touch(costs(), x.h); n != x.want || e != api.OK {
			t.Errorf("Touch(%+v) = %d, %d; want %d", x.h, n, e, x.want)
		}
	}
}

func TestP10_2Many(t *testing.T) {
	many(func(c api.Costs, _ api.Shape) {
		for h, want := range map[api.Hit]uint64{{L1: true, LLC: true}: c.L1, {L1: true}: c.L1, {LLC: true}: c.LLC, {}: c.Miss} {
			if n, e := cost.Touch(c, h); n != want || e != api.OK {
				t.Fatalf("Touch(%+v, %+v) = %d, %d; want %d", c, h, n, e, want)
			}
		}
	})
}

func TestP10_2Wrong(t *testing.T) {
	for _, c := range badCosts() {
		for _, h := range []api.Hit{{L1: true, LLC: true}, {L1: true}, {LLC: true}, {}} {
			n, e := cost.Touch(c, h)
			refused(t, "Touch", n, e, api.ErrCost)
		}
	}
}

// P10.3

func TestP10_3Examples(t *testing.T) {
	for kind, want := range map[uint8]uint64{
		api.CallSpawn: 380, api.CallExit: 480, api.CallFork: 2080, api.CallMap: 2300, api.CallUnmap: 2728,
		api.CallProtect: 1448, api.CallBrk: 2728, api.CallLoad: 804, api.CallStore: 1708, api.CallStat: 40, 0: 40, 255: 40,
	} {
		if n := worst(t, costs(), shape(), kind); n != want {
			t.Errorf("Worst of %d = %d, want %d", kind, n, want)
		}
	}
	if n := most(t, costs(), shape()); n != 2728 {
		t.Errorf("Most = %d", n)
	}
	n, e := cost.Worst(costs(), shapeWith(shape(), 0, 3), 1)
	refused(t, "Worst", n, e, api.ErrArg)
	n, e = cost.Worst(costsWith(costs(), 0, 0), shapeWith(shape(), 0, 3), 1)
	refused(t, "Worst", n, e, api.ErrCost)
}

func TestP10_3EveryKind(t *testing.T) {
	many(func(c api.Costs, s api.Shape) {
		greatest := uint64(0)
		for kind := range 256 {
			want := naive(c, s, uint8(kind))
			if n := worst(t, c, s, uint8(kind)); n != want {
				t.Fatalf("Worst(%+v, %+v, %d) = %d, want %d", c, s, kind, n, want)
			}
			greatest = max(greatest, want)
		}
		if n := most(t, c, s); n != greatest {
			t.Fatalf("Most(%+v, %+v) = %d, want %d", c, s, n, greatest)
		}
	})
}

// A map's is greater than an unmap's nowhere: 113 misses against 128 and the steps. So a brk's is an unmap's.
func TestP10_3Brk(t *testing.T) {
	many(func(c api.Costs, s api.Shape) {
		if b, u := worst(t, c, s, api.CallBrk), worst(t, c, s, api.CallUnmap); b != u {
			t.Fatalf("%+v, %+v: a brk %d, an unmap %d", c, s, b, u)
		}
	})
}

// Numbers that stand in a shape beside those that a kind's bound hangs on are of no weight.
func TestP10_3WhatItHangsOn(t *testing.T) {
	hangs := map[uint8][4]bool{
		api.CallExit: {true, false, true, false}, api.CallFork: {true, false, true, true},
		api.CallLoad: {true, true, false, false}, api.CallStore: {true, true, false, false},
	}
	for kind := range uint8(20) {
		want, known := hangs[kind]
		if !known {
			want = [4]bool{true, false, false, false}
		}
		for field, w := range want {
			other := shapeWith(shape(), field, 4)
			if changed := worst(t, costs(), shape(), kind) != worst(t, costs(), other, kind); changed != w {
				t.Errorf("the kind %d, the field %d: %v", kind, field, changed)
			}
		}
	}
}

func TestP10_3Wrong(t *testing.T) {
	for _, s := range badShapes() {
		for _, c := range []api.Costs{costs(), leastCosts(), greatestCosts()} {
			for _, kind := range []uint8{0, 1, 3, 9, 10, 11, 255} {
				n, e := cost.Worst(c, s, kind)
				refused(t, "Worst", n, e, api.ErrArg)
			}
			n, e := cost.Most(c, s)
			refused(t, "Most", n, e, api.ErrArg)
		}
	}
}

func TestP10_3CostsAhead(t *testing.T) {
	for _, c := range badCosts() {
		for _, s := range []api.Shape{shape(), {}, shapeWith(shape(), 0, 3), shapeWith(shape(), 1, math.MinInt)} {
			for _, kind := range []uint8{0, 1, 9, 255} {
				n, e := cost.Worst(c, s, kind)
				refused(t, "Worst", n, e, api.ErrCost)
			}
			n, e := cost.Most(c, s)
			refused(t, "Most", n, e, api.ErrCost)
		}
	}
}

func TestP10_3ShapesThatMayBe(t *testing.T) {
	for image := -1; image <= 20; image++ {
		_, e := cost.Most(costs(), shapeWith(shape(), 0, image))
		if may := image == 1 || image == 2 || image == 4 || image == 8; (e == api.OK) != may {
			t.Errorf("Image %d: %d", image, e)
		}
	}
	for field, ends := range [][2]int{1: {2, 4096}, 2: {1, 5120}, 3: {1, 4096}} {
		if field == 0 {
			continue
		}
		for n := -3; n <= 5130; n++ {
			_, e := cost.Worst(costs(), shapeWith(shape(), field, n), api.CallStat)
			if may := n >= ends[0] && n <= ends[1]; (e == api.OK) != may {
				t.Fatalf("the field %d with %d: %d", field, n, e)
			}
		}
	}
}

// P10.4

func TestP10_4Examples(t *testing.T) {
	if n, e := cost.Switch(costs(), 10, 3); n != 26 || e != api.OK {
		t.Errorf("Switch(c, 10, 3) = %d, %d", n, e)
	}
	for _, x := range [][2]int{{-1, 0}, {65537, 0}, {0, 65}} {
		n, e := cost.Switch(costs(), x[0], x[1])
		refused(t, "Switch", n, e, api.ErrArg)
	}
}

func TestP10_4Many(t *testing.T) {
	for _, step := range []uint64{1, 2, 3, 1000, maxCost - 1, maxCost} {
		c := costsWith(costs(), 4, step)
		for _, lines := range []int{0, 1, 2, 16, 4096, 65535, 65536} {
			want := uint64(lines) * step
			for trans := range 65 {
				if n, e := cost.Switch(c, lines, trans); n != want || e != api.OK {
					t.Fatalf("Switch(%+v, %d, %d) = %d, %d; want %d", c, lines, trans, n, e, want)
				}
				want += step
			}
		}
	}
}

func TestP10_4Wrong(t *testing.T) {
	for _, lines := range wrong(65536) {
		for _, trans := range []int{0, 1, 64, 65, -lines, math.MinInt} {
			n, e := cost.Switch(costs(), lines, trans)
			refused(t, "Switch", n, e, api.ErrArg)
		}
	}
	for _, trans := range wrong(64) {
		for _, lines := range []int{0, 1, 65536, 65537, -trans, math.MaxInt} {
			n, e := cost.Switch(costs(), lines, trans)
			refused(t, "Switch", n, e, api.ErrArg)
		}
	}
	for _, c := range badCosts() {
		for _, x := range [][2]int{{0, 0}, {10, 3}, {-1, 0}, {0, 65}, {math.MinInt, math.MaxInt}} {
			n, e := cost.Switch(c, x[0], x[1])
			refused(t, "Switch", n, e, api.ErrCost)
		}
	}
}

// P10.5

// all is all that is told of costs that may be: touches, bounds of each kind, the greatest one, a switch.
func all(t *testing.T, c api.Costs, s api.Shape) []uint64 {
	t.Helper()
	l := []uint64{}
	for _, h := range []api.Hit{{L1: true, LLC: true}, {LLC: true}, {}} {
		n, e := cost.Touch(c, h)
		if e != api.OK {
			t.Fatalf("Touch(%+v, %+v) = %d, %d", c, h, n, e)
		}
		l = append(l, n)
	}
	for kind := range uint8(api.Calls + 1) {
		l = append(l, worst(t, c, s, kind))
	}
	n, e := cost.Switch(c, s.User, s.Image)
	if e != api.OK {
		t.Fatalf("Switch(%+v, %d, %d) = %d, %d", c, s.User, s.Image, n, e)
	}
	return append(l, most(t, c, s), n)
}

func doesNotFall(t *testing.T, before, after []uint64) {
	t.Helper()
	for i := range before {
		if after[i] < before[i] {
			t.Fatalf("%d fell from %d to %d", i, before[i], after[i])
		}
	}
}

func TestP10_5RisesWithCosts(t *testing.T) {
	d := dice(3)
	many(func(c api.Costs, s api.Shape) {
		before := all(t, c, s)
		for field := range 6 {
			n := *costFields(&c)[field]
			for _, more := range []uint64{n + 1, d.from(n, maxCost)} {
				dearer := costsWith(c, field, more)
				if cost.Check(dearer) == api.OK {
					doesNotFall(t, before, all(t, dearer, s))
				}
			}
		}
	})
}

func TestP10_5RisesWithTheShape(t *testing.T) {
	d := dice(4)
	many(func(c api.Costs, s api.Shape) {
		before := all(t, c, s)
		for field, last := range []int{8, 4096, 5120, 4096} {
			n := *shapeFields(&s)[field]
			more := int(d.from(uint64(n), uint64(last)))
			if field == 0 {
				more = min(2*n, last)
			}
			doesNotFall(t, before, all(t, c, shapeWith(s, field, more)))
		}
	})
}

func TestP10_5Most(t *testing.T) {
	many(func(c api.Costs, s api.Shape) {
		n, is := most(t, c, s), false
		for _, kind := range []uint8{api.CallExit, api.CallFork, api.CallMap, api.CallUnmap, api.CallProtect, api.CallStore} {
			is = is || worst(t, c, s, kind) == n
		}
		if !is {
			t.Fatalf("Most(%+v, %+v) = %d is none of the six", c, s, n)
		}
		for kind := range 256 {
			if w := worst(t, c, s, uint8(kind)); w > n {
				t.Fatalf("%+v, %+v: the kind %d costs %d, the most is %d", c, s, kind, w, n)
			}
		}
	})
}

// Each of three kinds is the dearest one somewhere.
func TestP10_5EachIsTheMost(t *testing.T) {
	for _, x := range []struct {
		c    api.Costs
		s    api.Shape
		kind uint8
	}{
		{costs(), greatestShape(), api.CallFork},
		{costs(), leastShape(), api.CallUnmap},
		{costsWith(costs(), 5, maxCost), leastShape(), api.CallStore},
		{costsWith(costs(), 3, maxCost), leastShape(), api.CallStore},
	} {
		if n, w := most(t, x.c, x.s), worst(t, x.c, x.s, x.kind); n != w {
			t.Errorf("Most(%+v, %+v) = %d; the kind %d costs %d", x.c, x.s, n, x.kind, w)
		}
	}
}

func TestP10_5NothingCostsLessThanEntering(t *testing.T) {
	many(func(c api.Costs, s api.Shape) {
		for kind := range 256 {
			if n := worst(t, c, s, uint8(kind)); n < uint64(s.Image)*c.Miss {
				t.Fatalf("Worst(%+v, %+v, %d) = %d", c, s, kind, n)
			}
		}
	})
}

func TestP10_5FarBelowTheEnd(t *testing.T) {
	for i, n := range all(t, greatestCosts(), greatestShape()) {
		if n < maxCost || n >= 1<<40 {
			t.Errorf("%d: %d", i, n)
		}
	}
	if n := worst(t, greatestCosts(), greatestShape(), api.CallFork); n != 65536*(8+1+16*4096+3*5120) {
		t.Errorf("a fork costs at most %d", n)
	}
	if n, e := cost.Switch(greatestCosts(), 65536, 64); n != 65600*65536 || e != api.OK {
		t.Errorf("Switch = %d, %d", n, e)
	}
}

func TestP10_5SoManyTimesAsGreat(t *testing.T) {
	d := dice(5)
	many(func(c api.Costs, s api.Shape) {
		times := d.from(1, maxCost/max(c.Miss, c.Fault, c.Step, c.Disk))
		greater := c
		for _, n := range costFields(&greater) {
			*n *= times
		}
		once, often := all(t, c, s), all(t, greater, s)
		for i := range once {
			if often[i] != times*once[i] {
				t.Fatalf("%+v, %+v, %d times: %d is %d, not %d times %d", c, s, times, i, often[i], times, once[i])
			}
		}
	})
}

func TestP10_5OneAtMostTheOther(t *testing.T) {
	many(func(c api.Costs, s api.Shape) {
		for _, x := range [][2]uint8{{api.CallLoad, api.CallStore}, {api.CallProtect, api.CallUnmap}, {api.CallMap, api.CallBrk}, {api.CallUnmap, api.CallBrk}} {
			if a, b := worst(t, c, s, x[0]), worst(t, c, s, x[1]); a > b {
				t.Fatalf("%+v, %+v: the kind %d costs %d, the kind %d %d", c, s, x[0], a, x[1], b)
			}
		}
	})
}
