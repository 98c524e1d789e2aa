package buddy_test

import (
	"math"
	"slices"
	"testing"

	"cofferdam/api"
	"cofferdam/buddy"
)

// A block is its first place and its order.
type block struct{ at, order int }

func made(t *testing.T, n int) *buddy.Buddy {
	t.Helper()
	b, e := buddy.New(n)
	if b == nil || e != api.OK {
		t.Fatalf("New(%d) = %v, %d", n, b, e)
	}
	return b
}

func takes(t *testing.T, b *buddy.Buddy, order, want int) {
	t.Helper()
	if at, e := b.Take(order); at != want || e != api.OK {
		t.Fatalf("Take(%d) = %d, %d, want %d", order, at, e, want)
	}
}

func takesNone(t *testing.T, b *buddy.Buddy, order int, want api.Errno) {
	t.Helper()
	if at, e := b.Take(order); at != 0 || e != want {
		t.Fatalf("Take(%d) = %d, %d, want the error %d", order, at, e, want)
	}
}

func gives(t *testing.T, b *buddy.Buddy, at, order int, want api.Errno) {
	t.Helper()
	if e := b.Give(at, order); e != want {
		t.Fatalf("Give(%d, %d) = %d, want %d", at, order, e, want)
	}
}

func same(a, b [][]int) bool { return slices.EqualFunc(a, b, slices.Equal[[]int]) }

// lists fails the test unless the free blocks are those; the orders that are not named have none.
func lists(t *testing.T, b *buddy.Buddy, want ...[]int) {
	t.Helper()
	for len(want) <= api.MaxOrder {
		want = append(want, nil)
	}
	if l := b.Lists(); !same(l, want) {
		t.Fatalf("Lists = %v, want %v", l, want)
	}
}

// stays fails the test unless what is done changes nothing that can be seen.
func stays(t *testing.T, b *buddy.Buddy, do func()) {
	t.Helper()
	free, l, whole := b.Free(), b.Lists(), b.Whole()
	do()
	if b.Free() != free || b.Whole() != whole || !same(b.Lists(), l) {
		t.Fatalf("%d free, %v, %v became %d free, %v, %v", free, l, whole, b.Free(), b.Lists(), b.Whole())
	}
}

// dice are numbers that look like chance, the same ones in each run.
type dice uint64

func (d *dice) below(n int) int {
	*d = *d*6364136223846793005 + 1442695040888963407
	return int(uint64(*d) >> 33 % uint64(n))
}

// plain knows of each place whether it is taken, and which blocks are; the free blocks it tells by the document's words, each time anew.
type plain struct {
	places []bool
	taken  []block
}

func newPlain(n int) *plain { return &plain{places: make([]bool, n)} }

// open says whether a block lies within the places and is free wholly.
func (p *plain) open(x block) bool {
	end := x.at + 1<<x.order
	return end <= len(p.places) && !slices.Contains(p.places[x.at:end], true)
}

func (p *plain) lists() [][]int {
	all := make([][]int, api.MaxOrder+1)
	for order := range all {
		for at := 0; at < len(p.places); at += 1 << order {
			above := block{at &^ (1 << order), order + 1}
			if p.open(block{at, order}) && (order == api.MaxOrder || !p.open(above)) {
				all[order] = append(all[order], at)
			}
		}
	}
	return all
}

// mark makes all places of a block taken, or free.
func (p *plain) mark(x block, to bool) {
	for i := range 1 << x.order {
		p.places[x.at+i] = to
	}
}

func (p *plain) take(order int) (int, bool) {
	for _, l := range p.lists()[order:] {
		if len(l) > 0 {
			x := block{l[0], order}
			p.mark(x, true)
			p.taken = append(p.taken, x)
			return x.at, true
		}
	}
	return 0, false
}

func (p *plain) give(x block) bool {
	i := slices.Index(p.taken, x)
	if i < 0 {
		return false
	}
	p.mark(x, false)
	p.taken = slices.Delete(p.taken, i, i+1)
	return true
}

func (p *plain) free() int {
	n := 0
	for _, is := range p.places {
		if !is {
			n++
		}
	}
	return n
}

// like fails the test unless a buddy tells what the plain one does.
func like(t *testing.T, b *buddy.Buddy, p *plain) {
	t.Helper()
	if n := p.free(); b.Free() != n || b.Whole() != (n == len(p.places)) {
		t.Fatalf("Free = %d, Whole = %v, want %d of %d", b.Free(), b.Whole(), n, len(p.places))
	}
	lists(t, b, p.lists()...)
}

// takeBoth takes of both and fails the test unless they answer alike.
func takeBoth(t *testing.T, b *buddy.Buddy, p *plain, order int) {
	t.Helper()
	at, is := p.take(order)
	if is {
		takes(t, b, order, at)
	} else {
		takesNone(t, b, order, api.ErrOrder)
	}
}

func giveBoth(t *testing.T, b *buddy.Buddy, p *plain, x block) {
	t.Helper()
	want := api.OK
	if !p.give(x) {
		want = api.ErrTaken
	}
	gives(t, b, x.at, x.order, want)
}

// Numbers of places: none, few, and those about the greatest blocks.
func sizes() []int {
	return []int{0, 1, 2, 3, 5, 7, 8, 13, 31, 32, 63, 64, 65, 100, 127, 128, 129, 191, 192, 255, 256}
}

// Orders that may not be.
func wrongOrders() []int {
	return []int{-1, -2, -6, -7, -64, 7, 8, 12, 63, 64, 65, 1 << 31, 1 << 32, 1<<32 + 1, 1 << 62, math.MaxInt, math.MinInt, math.MinInt + 1}
}

// Buddies that no call has made.
func none() []*buddy.Buddy { return []*buddy.Buddy{nil, {}, new(buddy.Buddy)} }

// The document's examples, one behind the other.
func TestP9_1Examples(t *testing.T) {
	b := made(t, 5)
	lists(t, b, []int{4}, nil, []int{0})
	takes(t, b, 0, 4)
	takes(t, b, 0, 0)
	lists(t, b, []int{1}, []int{2})
	takesNone(t, b, 2, api.ErrOrder)
	takes(t, b, 1, 2)
	gives(t, b, 0, 0, api.OK)
	lists(t, b, nil, []int{0})
	gives(t, b, 4, 1, api.ErrTaken)
	gives(t, b, 3, 0, api.ErrTaken)
	gives(t, b, 2, 1, api.OK)
	gives(t, b, 4, 0, api.OK)
	if !b.Whole() {
		t.Error("not whole")
	}
	b = made(t, 0)
	takesNone(t, b, 0, api.ErrOrder)
	takesNone(t, b, 7, api.ErrArg)
	if !b.Whole() {
		t.Error("one without places is not whole")
	}
}

// P9.1

func TestP9_1EachNumberOfPlaces(t *testing.T) {
	for n := range 300 {
		like(t, made(t, n), newPlain(n))
	}
	for n := 300; n <= api.MaxFrames; n += 73 {
		like(t, made(t, n), newPlain(n))
	}
	for _, n := range []int{1023, 1024, 2047, 2048, 4032, 4094, 4095, 4096} {
		like(t, made(t, n), newPlain(n))
	}
}

// Reckoned at once: as many blocks of the greatest order as fit, then one for each bit of what is over, the greater ones first.
func TestP9_1FreeBlocksByBits(t *testing.T) {
	for n := 0; n <= api.MaxFrames; n++ {
		want := make([][]int, api.MaxOrder+1)
		for i := range n / 64 {
			want[6] = append(want[6], 64*i)
		}
		at := n / 64 * 64
		for order := api.MaxOrder - 1; order >= 0; order-- {
			if n&(1<<order) != 0 {
				want[order] = []int{at}
				at += 1 << order
			}
		}
		b := made(t, n)
		lists(t, b, want...)
		if b.Free() != n || !b.Whole() {
			t.Fatalf("New(%d): %d free, whole %v", n, b.Free(), b.Whole())
		}
	}
}

func TestP9_1Refused(t *testing.T) {
	for _, n := range []int{-1, -2, -64, -4096, -4097, 4097, 4098, 8192, 1 << 16, 1 << 31, 1 << 32, 1<<32 + 1, 1 << 62, math.MaxInt, math.MinInt, math.MinInt + 1} {
		if b, e := buddy.New(n); b != nil || e != api.ErrArg {
			t.Errorf("New(%d) = %v, %d, want ErrArg", n, b, e)
		}
	}
}

func TestP9_1EachOneIsAlone(t *testing.T) {
	a, b := made(t, 8), made(t, 8)
	takes(t, a, 0, 0)
	lists(t, b, nil, nil, nil, []int{0})
	gives(t, b, 0, 0, api.ErrTaken)
	takes(t, b, 3, 0)
	gives(t, a, 0, 0, api.OK)
}

// P9.2

func TestP9_2HalvesTheGreatest(t *testing.T) {
	b := made(t, 64)
	takes(t, b, 0, 0)
	lists(t, b, []int{1}, []int{2}, []int{4}, []int{8}, []int{16}, []int{32})
	if b.Free() != 63 || b.Whole() {
		t.Errorf("%d free, whole %v", b.Free(), b.Whole())
	}
	b = made(t, 64)
	takes(t, b, 4, 0)
	lists(t, b, nil, nil, nil, nil, []int{16}, []int{32})
	takes(t, b, 4, 16)
	takes(t, b, 5, 32)
	lists(t, b)
	takesNone(t, b, 0, api.ErrOrder)
}

// Not the least place of all, but that of the least block that is great enough.
func TestP9_2TheLeastOrderFirst(t *testing.T) {
	b := made(t, 64+32+2)
	takes(t, b, 0, 96)
	lists(t, b, []int{97}, nil, nil, nil, nil, []int{64}, []int{0})
	takes(t, b, 1, 64)
	takes(t, b, 5, 0)
	lists(t, b, []int{97}, []int{66}, []int{68}, []int{72}, []int{80}, []int{32})
	takes(t, b, 0, 97)
	takes(t, b, 0, 66)
	takes(t, b, 5, 32)
	takesNone(t, b, 5, api.ErrOrder)
	takes(t, b, 4, 80)
}

// Of several of one order the one with the least place, in whatever order they became free.
func TestP9_2TheLeastPlace(t *testing.T) {
	for _, back := range [][]int{{2, 8, 14}, {14, 8, 2}, {8, 14, 2}, {8, 2, 14}} {
		b := made(t, 16)
		for at := range 16 {
			takes(t, b, 0, at)
		}
		for _, at := range back {
			gives(t, b, at, 0, api.OK)
		}
		lists(t, b, []int{2, 8, 14})
		takes(t, b, 0, 2)
		takes(t, b, 0, 8)
		takes(t, b, 0, 14)
		takesNone(t, b, 0, api.ErrOrder)
	}
}

// Blocks of each order alone: one behind the other, as many as fit.
func TestP9_2EachOrderAlone(t *testing.T) {
	for order := range api.MaxOrder + 1 {
		b := made(t, api.MaxFrames)
		for at := 0; at < api.MaxFrames; at += 1 << order {
			takes(t, b, order, at)
		}
		takesNone(t, b, order, api.ErrOrder)
		takesNone(t, b, 0, api.ErrOrder)
		if b.Free() != 0 {
			t.Fatalf("order %d: %d free", order, b.Free())
		}
	}
}

// Many places are free, but no block of the order is: what is refused changes nothing.
func TestP9_2NoBlock(t *testing.T) {
	b := made(t, 16)
	for at := range 16 {
		takes(t, b, 0, at)
	}
	for at := 0; at < 16; at += 2 {
		gives(t, b, at, 0, api.OK)
	}
	stays(t, b, func() {
		for order := 1; order <= api.MaxOrder; order++ {
			takesNone(t, b, order, api.ErrOrder)
		}
	})
	takes(t, b, 0, 0)
	for n := range 64 {
		takesNone(t, made(t, n), 6, api.ErrOrder)
	}
	takes(t, made(t, 64), 6, 0)
	b = made(t, 127)
	takes(t, b, 6, 0)
	takesNone(t, b, 6, api.ErrOrder)
}

// 1 and 2 are free, as many as a block of the order 1 has, but they are no buddies.
func TestP9_2NeighboursThatAreNoBuddies(t *testing.T) {
	b := made(t, 4)
	for at := range 4 {
		takes(t, b, 0, at)
	}
	gives(t, b, 1, 0, api.OK)
	gives(t, b, 2, 0, api.OK)
	lists(t, b, []int{1, 2})
	takesNone(t, b, 1, api.ErrOrder)
}

func TestP9_2Refused(t *testing.T) {
	for _, n := range []int{0, 1, 5, 64, 4096} {
		b := made(t, n)
		stays(t, b, func() {
			for _, order := range wrongOrders() {
				takesNone(t, b, order, api.ErrArg)
			}
		})
	}
	for _, b := range none() {
		for _, order := range []int{0, 6, 7, -1, math.MinInt} {
			takesNone(t, b, order, api.ErrNil)
		}
	}
}

// P9.3

func TestP9_3PutsTogetherAtOnce(t *testing.T) {
	b := made(t, 64)
	takes(t, b, 0, 0)
	gives(t, b, 0, 0, api.OK)
	lists(t, b, nil, nil, nil, nil, nil, nil, []int{0})
	b = made(t, 8)
	for at := range 8 {
		takes(t, b, 0, at)
	}
	gives(t, b, 7, 0, api.OK)
	gives(t, b, 4, 0, api.OK)
	lists(t, b, []int{4, 7})
	gives(t, b, 6, 0, api.OK)
	lists(t, b, []int{4}, []int{6})
	gives(t, b, 5, 0, api.OK)
	lists(t, b, nil, nil, []int{4})
	gives(t, b, 1, 0, api.OK)
	gives(t, b, 2, 0, api.OK)
	gives(t, b, 3, 0, api.OK)
	lists(t, b, []int{1}, []int{2}, []int{4})
	gives(t, b, 0, 0, api.OK)
	lists(t, b, nil, nil, nil, []int{0})
}

// Two blocks of the greatest order are never put together, nor a block with what lies past the end.
func TestP9_3NotPastTheEnds(t *testing.T) {
	b := made(t, 128)
	takes(t, b, 6, 0)
	takes(t, b, 6, 64)
	gives(t, b, 64, 6, api.OK)
	gives(t, b, 0, 6, api.OK)
	lists(t, b, nil, nil, nil, nil, nil, nil, []int{0, 64})
	b = made(t, 3)
	takes(t, b, 0, 2)
	gives(t, b, 2, 0, api.OK)
	lists(t, b, []int{2}, []int{0})
}

// Of all blocks there may be, just those that were taken can be given back, each once.
func TestP9_3JustWhatWasTaken(t *testing.T) {
	b, p := made(t, 70), newPlain(70)
	for _, order := range []int{2, 0, 1, 1, 3, 0, 5} {
		takeBoth(t, b, p, order)
	}
	kept := slices.Clone(p.taken)
	stays(t, b, func() {
		for at := range 140 {
			for order := range api.MaxOrder + 1 {
				if !slices.Contains(kept, block{at, order}) {
					gives(t, b, at, order, api.ErrTaken)
				}
			}
		}
	})
	for _, x := range kept {
		giveBoth(t, b, p, x)
		like(t, b, p)
		stays(t, b, func() { gives(t, b, x.at, x.order, api.ErrTaken) })
	}
}

// A block that was taken whole is not given back by halves, nor two halves as one.
func TestP9_3NotByHalves(t *testing.T) {
	b := made(t, 4)
	takes(t, b, 1, 0)
	stays(t, b, func() {
		gives(t, b, 0, 0, api.ErrTaken)
		gives(t, b, 1, 0, api.ErrTaken)
		gives(t, b, 0, 2, api.ErrTaken)
	})
	takes(t, b, 0, 2)
	takes(t, b, 0, 3)
	stays(t, b, func() { gives(t, b, 2, 1, api.ErrTaken) })
	gives(t, b, 2, 0, api.OK)
	gives(t, b, 3, 0, api.OK)
	gives(t, b, 0, 1, api.OK)
	lists(t, b, nil, nil, []int{0})
}

// What was given back, and taken as another block, is that other block.
func TestP9_3TakenAnew(t *testing.T) {
	b := made(t, 4)
	takes(t, b, 0, 0)
	gives(t, b, 0, 0, api.OK)
	takes(t, b, 2, 0)
	stays(t, b, func() { gives(t, b, 0, 0, api.ErrTaken) })
	gives(t, b, 0, 2, api.OK)
	takes(t, b, 0, 0)
	stays(t, b, func() { gives(t, b, 0, 2, api.ErrTaken) })
	gives(t, b, 0, 0, api.OK)
}

func TestP9_3Refused(t *testing.T) {
	b := made(t, 64)
	takes(t, b, 0, 0)
	takes(t, b, 5, 32)
	stays(t, b, func() {
		for _, order := range wrongOrders() {
			for _, at := range []int{0, 32, 1, -1, 64, math.MaxInt, math.MinInt} {
				gives(t, b, at, order, api.ErrArg)
			}
		}
		for order := range api.MaxOrder + 1 {
			for _, at := range []int{-1, -2, -32, -64, -1 << 32, math.MinInt, math.MinInt + 1} {
				gives(t, b, at, order, api.ErrArg)
			}
			for _, at := range []int{64, 65, 4095, 4096, 4097, 1 << 31, 1 << 32, 1<<32 + 32, 1 << 62, math.MaxInt, math.MaxInt - 1} {
				gives(t, b, at, order, api.ErrTaken)
			}
		}
	})
	gives(t, b, 32, 5, api.OK)
	gives(t, b, 0, 0, api.OK)
	gives(t, made(t, 0), 0, 0, api.ErrTaken)
	for _, b := range none() {
		for _, x := range []block{{0, 0}, {-1, 0}, {0, 7}, {math.MinInt, -1}} {
			gives(t, b, x.at, x.order, api.ErrNil)
		}
	}
}

// P9.4

func TestP9_4OfNone(t *testing.T) {
	for _, b := range none() {
		if b.Free() != 0 || len(b.Lists()) != 0 || b.Whole() {
			t.Errorf("Free = %d, Lists = %v, Whole = %v", b.Free(), b.Lists(), b.Whole())
		}
	}
	b := made(t, 0)
	if b.Free() != 0 || !b.Whole() {
		t.Errorf("without places: Free = %d, Whole = %v", b.Free(), b.Whole())
	}
	lists(t, b)
}

// Each order has its list, even one without blocks.
func TestP9_4ListsOfAllOrders(t *testing.T) {
	for _, n := range sizes() {
		b := made(t, n)
		if len(b.Lists()) != api.MaxOrder+1 {
			t.Errorf("New(%d): %d lists", n, len(b.Lists()))
		}
		for b.Free() > 0 {
			if _, e := b.Take(0); e != api.OK {
				t.Fatalf("New(%d): %d, but %d are free", n, e, b.Free())
			}
		}
		lists(t, b)
	}
}

// Whole tells of all places, not of the free blocks there are.
func TestP9_4WholeOnlyWithAll(t *testing.T) {
	b := made(t, 192)
	for _, at := range []int{0, 64, 128} {
		takes(t, b, 6, at)
		if b.Whole() {
			t.Fatal("whole, with a block taken")
		}
	}
	for i, at := range []int{64, 128, 0} {
		gives(t, b, at, 6, api.OK)
		if b.Whole() != (i == 2) {
			t.Fatalf("after %d blocks are back: whole %v", i+1, b.Whole())
		}
	}
}

// spoil changes all of a list's numbers and what stands in its spare room.
func spoil(l []int) {
	for i := range l {
		l[i] = -7
	}
	l = l[:cap(l)]
	for i := range l {
		l[i] = -8
	}
}

func TestP9_4ListsAreNew(t *testing.T) {
	b, p := made(t, 100), newPlain(100)
	for range 9 {
		takeBoth(t, b, p, 1)
	}
	for _, x := range []block{{4, 1}, {8, 1}, {64, 1}, {68, 1}} {
		giveBoth(t, b, p, x)
	}
	kept := b.Lists()
	for i, l := range b.Lists() {
		again := b.Lists()
		spoil(l)
		for j := range again {
			if !slices.Equal(again[j], kept[j]) {
				t.Fatalf("the list %d changed with %d of another answer", j, i)
			}
		}
		one := b.Lists()
		spoil(one[i])
		for j := range one {
			if j != i && !slices.Equal(one[j], kept[j]) {
				t.Fatalf("the list %d changed with %d of its answer", j, i)
			}
		}
		like(t, b, p)
	}
}

// An answer is what stood there then, whatever is done later.
func TestP9_4ListsStay(t *testing.T) {
	b := made(t, 128)
	l := b.Lists()
	takes(t, b, 6, 0)
	takes(t, b, 0, 64)
	if !slices.Equal(l[6], []int{0, 64}) || len(l[0]) != 0 {
		t.Errorf("an earlier answer became %v", l)
	}
}

// P9.5

// Takes and gives in turn, of blocks that are taken and of others, against the plain one at each step.
func TestP9_5LikeThePlainOne(t *testing.T) {
	d := dice(9)
	for _, n := range sizes() {
		for round := range 4 {
			b, p := made(t, n), newPlain(n)
			for range 150 {
				switch k := d.below(8); {
				case k < 4:
					takeBoth(t, b, p, d.below(2+round))
				case k < 7 && len(p.taken) > 0:
					giveBoth(t, b, p, p.taken[d.below(len(p.taken))])
				default:
					giveBoth(t, b, p, block{d.below(n + 2), d.below(api.MaxOrder + 1)})
				}
				like(t, b, p)
			}
		}
	}
}

func TestP9_5LikeThePlainOneWithTheMostPlaces(t *testing.T) {
	d := dice(95)
	b, p := made(t, api.MaxFrames), newPlain(api.MaxFrames)
	for step := range 1200 {
		if d.below(3) > 0 || len(p.taken) == 0 {
			takeBoth(t, b, p, d.below(api.MaxOrder+1))
		} else {
			giveBoth(t, b, p, p.taken[d.below(len(p.taken))])
		}
		if step%20 == 0 {
			like(t, b, p)
		}
	}
	like(t, b, p)
}

// What a buddy itself answers is enough to tell: no place is in two taken blocks, nor in a taken and a free one, and all are somewhere.
func TestP9_5NoPlaceIsShared(t *testing.T) {
	d := dice(59)
	for _, n := range sizes() {
		b := made(t, n)
		var taken []block
		for range 200 {
			if order := d.below(api.MaxOrder + 1); d.below(5) > 1 {
				if at, e := b.Take(order); e == api.OK {
					taken = append(taken, block{at, order})
				}
			} else if len(taken) > 0 {
				i := d.below(len(taken))
				gives(t, b, taken[i].at, taken[i].order, api.OK)
				taken = slices.Delete(taken, i, i+1)
			}
			covers(t, b, n, taken)
		}
	}
}

func covers(t *testing.T, b *buddy.Buddy, n int, taken []block) {
	t.Helper()
	size := 0
	for _, x := range taken {
		size += 1 << x.order
	}
	if b.Free()+size != n {
		t.Fatalf("%d free and %d taken are not %d", b.Free(), size, n)
	}
	all := slices.Clone(taken)
	for order, l := range b.Lists() {
		for _, at := range l {
			all = append(all, block{at, order})
		}
	}
	seen := make([]int, n)
	for _, x := range all {
		if x.at%(1<<x.order) != 0 || x.at+1<<x.order > n {
			t.Fatalf("%v is no block of %d places", x, n)
		}
		for i := range 1 << x.order {
			seen[x.at+i]++
		}
	}
	if slices.ContainsFunc(seen, func(k int) bool { return k != 1 }) {
		t.Fatalf("%d places, taken %v: covered %v", n, taken, seen)
	}
}

// orders calls a function with all orders of the numbers below n.
func orders(n int, do func([]int)) {
	var grow func([]int)
	grow = func(l []int) {
		if len(l) == n {
			do(l)
			return
		}
		for i := range n {
			if !slices.Contains(l, i) {
				grow(append(slices.Clone(l), i))
			}
		}
	}
	grow(nil)
}

// Given back in each order there is: few blocks, of orders that fit.
func TestP9_5WholeInEachOrder(t *testing.T) {
	for _, takenOrders := range [][]int{{0, 0, 0, 0, 0, 0}, {0, 1, 0, 2, 0}, {2, 0, 1, 1, 0}, {1, 1, 1, 0, 0}} {
		for _, n := range []int{11, 16, 13} {
			orders(len(takenOrders), func(back []int) {
				b := made(t, n)
				first := b.Lists()
				var taken []block
				for _, order := range takenOrders {
					at, e := b.Take(order)
					if e != api.OK {
						t.Fatalf("%d places: Take(%d): %d", n, order, e)
					}
					taken = append(taken, block{at, order})
				}
				for _, i := range back {
					if b.Whole() {
						t.Fatal("whole, with blocks taken")
					}
					gives(t, b, taken[i].at, taken[i].order, api.OK)
				}
				if !b.Whole() || b.Free() != n {
					t.Fatalf("%d places: %d free, whole %v", n, b.Free(), b.Whole())
				}
				lists(t, b, first...)
			})
		}
	}
}

// Taken until nothing is left, given back by chance: as New, again and again.
func TestP9_5WholeAgain(t *testing.T) {
	d := dice(5)
	for _, n := range append(sizes(), 1000, api.MaxFrames) {
		b := made(t, n)
		first := b.Lists()
		for range 3 {
			var taken []block
			for b.Free() > 0 {
				order := d.below(api.MaxOrder + 1)
				at, e := b.Take(order)
				if e == api.ErrOrder {
					order = 0
					at, e = b.Take(0)
				}
				if e != api.OK {
					t.Fatalf("%d free, but Take(0): %d", b.Free(), e)
				}
				taken = append(taken, block{at, order})
			}
			for len(taken) > 0 {
				i := d.below(len(taken))
				gives(t, b, taken[i].at, taken[i].order, api.OK)
				taken[i] = taken[len(taken)-1]
				taken = taken[:len(taken)-1]
			}
			if !b.Whole() || b.Free() != n {
				t.Fatalf("%d places: %d free, whole %v", n, b.Free(), b.Whole())
			}
			lists(t, b, first...)
		}
	}
}

// Whichever single places are taken, of each order a Take is refused just if no such block is free wholly.
func TestP9_5RefusedJustWithoutABlock(t *testing.T) {
	for _, n := range []int{6, 8, 11} {
		for set := range 1 << n {
			p := newPlain(n)
			for at := range n {
				p.places[at] = set>>at&1 == 1
			}
			for order := range 5 {
				b := withTaken(t, n, set)
				lists(t, b, p.lists()...)
				if at, e := b.Take(order); (e == api.OK) != someOpen(p, order) || e == api.OK && !p.open(block{at, order}) {
					t.Fatalf("%d places, taken %b: Take(%d) = %d, %d", n, set, order, at, e)
				}
			}
		}
	}
}

// withTaken is a buddy of which the places of a set of bits alone are taken.
func withTaken(t *testing.T, n, set int) *buddy.Buddy {
	t.Helper()
	b := made(t, n)
	for range n {
		if _, e := b.Take(0); e != api.OK {
			t.Fatalf("Take(0): %d", e)
		}
	}
	for at := range n {
		if set>>at&1 == 0 {
			gives(t, b, at, 0, api.OK)
		}
	}
	return b
}

func someOpen(p *plain, order int) bool {
	for at := 0; at < len(p.places); at += 1 << order {
		if p.open(block{at, order}) {
			return true
		}
	}
	return false
}
