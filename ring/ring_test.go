package ring_test

import (
	"fmt"
	"math"
	"slices"
	"testing"

	"cofferdam/api"
	"cofferdam/ring"
)

func no(int) bool { return false }

func yes(int) bool { return true }

// dice are numbers that look like chance, the same ones in each run.
type dice uint64

func (d *dice) below(n int) int {
	*d = *d*6364136223846793005 + 1442695040888963407
	return int(uint64(*d) >> 33 % uint64(n))
}

// known is what a ring ought to be: its numbers, from the hand on.
type known []int

// turn is the row as it is when the hand has gone on by so many numbers.
func (k known) turn(n int) known {
	if len(k) == 0 {
		return known{}
	}
	n %= len(k)
	return append(slices.Clone(k[n:]), k[:n]...)
}

func (k *known) add(id int) api.Errno {
	switch {
	case id < 0:
		return api.ErrArg
	case slices.Contains(*k, id):
		return api.ErrTaken
	case len(*k) == api.MaxFrames:
		return api.ErrNoMem
	}
	*k = append(slices.Clone(*k), id)
	return api.OK
}

func (k *known) remove(id int) api.Errno {
	left := known{}
	for _, other := range *k {
		if other != id {
			left = append(left, other)
		}
	}
	if len(left) == len(*k) {
		return api.ErrRing
	}
	*k = left
	return api.OK
}

// told is what Next answers, and of which numbers it asks.
type told struct {
	id, looked int
	e          api.Errno
	asked      []int
}

func (a told) is(b told) bool {
	return a.id == b.id && a.looked == b.looked && a.e == b.e && slices.Equal(a.asked, b.asked)
}

func (a told) String() string {
	return fmt.Sprintf("%d, %d looked at, %d, asked of %v", a.id, a.looked, a.e, a.asked)
}

func (k *known) next(pinned int, used func(int) bool) told {
	row := *k
	if len(row) == 0 {
		return told{e: api.ErrRing}
	}
	var asked []int
	for looked := 1; looked <= 2*len(row)+1; looked++ {
		id := row[(looked-1)%len(row)]
		*k = row.turn(looked)
		if id == pinned {
			continue
		}
		asked = append(asked, id)
		if !used(id) {
			return told{id, looked, api.OK, asked}
		}
	}
	return told{0, 2*len(row) + 1, api.ErrRing, asked}
}

// next is what the ring tells; asking goes on to what is handed in.
func next(r *ring.Ring, pinned int, used func(int) bool) told {
	var a told
	a.id, a.looked, a.e = r.Next(pinned, func(id int) bool {
		a.asked = append(a.asked, id)
		return used(id)
	})
	return a
}

// both are a ring, and what it ought to be.
type both struct {
	t *testing.T
	r *ring.Ring
	k known
}

// made is a ring with these numbers, in this row, the hand at the first one.
func made(t *testing.T, row ...int) *both {
	t.Helper()
	r := ring.New()
	if r == nil {
		t.Fatal("New() = nil")
	}
	b := &both{t, r, known{}}
	for _, id := range row {
		b.add(id)
	}
	return b
}

// turned is a ring with these numbers, the hand having gone on by so many of them. So the place of the hand is not the first one that the ring ever had.
func turned(t *testing.T, by int, row ...int) *both {
	t.Helper()
	b := made(t, row...)
	for range by {
		b.next(-1, no)
	}
	return b
}

func (b *both) hold() {
	b.t.Helper()
	if l := b.r.List(); !slices.Equal(l, b.k) {
		b.t.Fatalf("List() = %v; want %v", short(l), short(b.k))
	}
}

// short is as much of a list as is of use in a report.
func short(l []int) string {
	if len(l) > 20 {
		return fmt.Sprintf("%v .. %v (%d numbers)", l[:10], l[len(l)-10:], len(l))
	}
	return fmt.Sprint(l)
}

func (b *both) add(id int) {
	b.t.Helper()
	row := b.k
	if e, want := b.r.Add(id), b.k.add(id); e != want {
		b.t.Fatalf("of %v: Add(%d) = %d; want %d", short(row), id, e, want)
	}
}

func (b *both) remove(id int) {
	b.t.Helper()
	row := b.k
	if e, want := b.r.Remove(id), b.k.remove(id); e != want {
		b.t.Fatalf("of %v: Remove(%d) = %d; want %d", short(row), id, e, want)
	}
}

// next is for functions that say the same whenever they are asked.
func (b *both) next(pinned int, used func(int) bool) told {
	b.t.Helper()
	return b.nextOf(pinned, func() func(int) bool { return used })
}

// nextOf is for functions that remember: one is made for the ring, and one for what it ought to be.
func (b *both) nextOf(pinned int, one func() func(int) bool) told {
	b.t.Helper()
	row := b.k
	got, want := next(b.r, pinned, one()), b.k.next(pinned, one())
	if !got.is(want) {
		b.t.Fatalf("of %v: Next(%d, ..) = %v; want %v", short(row), pinned, got, want)
	}
	b.hold()
	return got
}

// says is a function that says so at its first asking, at its second one, and so on, the lowest bit first.
func says(bits int) func() func(int) bool {
	return func() func(int) bool {
		left := bits
		return func(int) bool {
			is := left&1 == 1
			left >>= 1
			return is
		}
	}
}

// cleared is a function by which the numbers of the set bits were used, but not any more when they have been asked.
func cleared(row []int, bits int) func() func(int) bool {
	return func() func(int) bool {
		was := map[int]bool{}
		for i, id := range row {
			was[id] = bits>>i&1 == 1
		}
		return func(id int) bool {
			is := was[id]
			was[id] = false
			return is
		}
	}
}

// row is so many numbers that do not rise.
func row(n int) []int {
	l := make([]int, n)
	for i := range l {
		l[i] = (i*5 + 3) % 23
	}
	return l
}

// each calls what is handed in for all rings of up to so many numbers, and all places that the hand may have gone to.
func each(t *testing.T, most int, call func(b *both)) {
	t.Helper()
	for n := range most + 1 {
		for by := range max(n, 1) {
			call(turned(t, by, row(n)...))
		}
	}
}

// again is a ring as another one is.
func (b *both) again() *both {
	b.t.Helper()
	n := len(b.k)
	for by := range max(n, 1) {
		if other := turned(b.t, by, row(n)...); slices.Equal(other.k, b.k) {
			return other
		}
	}
	b.t.Fatalf("no such ring: %v", b.k)
	return nil
}

// Numbers that may not be on a ring; the lowest bits of many of them are those of one that may.
func wrong() []int {
	l := []int{-1, -2, -3, -4, -api.MaxFrames, math.MinInt, math.MinInt + 1, math.MinInt + 3}
	for shift := range 63 {
		l = append(l, -1<<shift, 3-1<<shift, -1-1<<shift)
	}
	return slices.DeleteFunc(l, func(id int) bool { return id >= 0 })
}

// Numbers that may be, without those below 64; many of them have their lowest bits in common.
func far() []int {
	l := []int{api.MaxFrames - 1, api.MaxFrames + 1, math.MaxInt, math.MaxInt - 1, math.MaxInt32, math.MaxUint32}
	for shift := 6; shift < 63; shift++ {
		l = append(l, 1<<shift, 1<<shift+3)
	}
	return l
}

// Rings that New did not make.
func noRings() []*ring.Ring { return []*ring.Ring{nil, {}, new(ring.Ring)} }

// Rings that are none

func TestP19_1NoRing(t *testing.T) {
	for i, r := range noRings() {
		for range 2 {
			if l := r.List(); len(l) != 0 {
				t.Errorf("ring %d: List() = %v; want none", i, l)
			}
			r.Add(1)
		}
	}
}

func TestP19_2NoRing(t *testing.T) {
	for i, r := range noRings() {
		for range 2 {
			for _, id := range []int{0, 1, 7, -1, math.MaxInt, math.MinInt} {
				if e := r.Add(id); e != api.ErrNil {
					t.Errorf("ring %d: Add(%d) = %d; want ErrNil", i, id, e)
				}
				if e := r.Remove(id); e != api.ErrNil {
					t.Errorf("ring %d: Remove(%d) = %d; want ErrNil", i, id, e)
				}
			}
		}
	}
}

func TestP19_3NoRing(t *testing.T) {
	for i, r := range noRings() {
		r.Add(1)
		for _, pinned := range []int{-1, 0, 1, math.MinInt} {
			if id, n, e := r.Next(pinned, nil); id != 0 || n != 0 || e != api.ErrNil {
				t.Errorf("ring %d: Next(%d, nil) = %d, %d, %d; want 0, 0, ErrNil", i, pinned, id, n, e)
			}
			if a := next(r, pinned, no); !a.is(told{e: api.ErrNil}) {
				t.Errorf("ring %d: Next(%d, ..) = %v; want ErrNil, none asked", i, pinned, a)
			}
		}
	}
}

// P19.1

func TestP19_1New(t *testing.T) {
	b := made(t)
	b.hold()
	b.next(-1, no)
	b.remove(0)
	b.add(0)
	b.hold()
}

func TestP19_1ListFromTheHandOn(t *testing.T) {
	each(t, 8, func(b *both) { b.hold() })
	b := made(t, 4, 2, 9)
	for i, want := range []known{{4, 2, 9}, {2, 9, 4}, {9, 4, 2}, {4, 2, 9}} {
		if l := b.r.List(); !slices.Equal(l, want) {
			t.Errorf("turned by %d: List() = %v; want %v", i, l, want)
		}
		b.r.Next(-1, no)
	}
}

func TestP19_1ListChangesNothing(t *testing.T) {
	each(t, 4, func(b *both) {
		for range 3 {
			b.hold()
		}
		b.next(-1, no)
		b.hold()
		b.hold()
		b.add(40)
		b.hold()
	})
}

func TestP19_1ListIsNewMemory(t *testing.T) {
	each(t, 5, func(b *both) {
		want := slices.Clone(b.k)
		first, second := b.r.List(), b.r.List()
		for i := range first {
			first[i] = -1
		}
		_ = append(first[:0], make([]int, cap(first))...)
		if !slices.Equal(second, want) {
			t.Fatalf("two answers of List share memory: %v", second)
		}
		b.hold()
		for _, id := range want {
			b.remove(id)
			b.hold()
		}
		for id := 30; id < 40; id++ {
			b.add(id)
		}
		b.next(-1, no)
		if !slices.Equal(second, want) {
			t.Fatalf("a list that was answered was changed later on: %v; want %v", second, want)
		}
		_ = append(second[:0], make([]int, cap(second))...)
		b.hold()
	})
}

func TestP19_1RingsAreApart(t *testing.T) {
	a, b := turned(t, 1, 1, 2, 3), made(t, 1, 2, 3)
	a.hold()
	b.hold()
	a.remove(2)
	b.add(4)
	a.next(-1, no)
	b.next(2, yes)
	a.hold()
	b.hold()
}

// P19.2

func TestP19_2Examples(t *testing.T) {
	b := turned(t, 2, 1, 2, 3)
	list := func(want ...int) {
		t.Helper()
		if l := b.r.List(); !slices.Equal(l, want) {
			t.Errorf("List() = %v; want %v", l, want)
		}
	}
	list(3, 1, 2)
	if e := b.r.Add(4); e != api.OK {
		t.Errorf("Add(4) = %d; want OK", e)
	}
	list(3, 1, 2, 4)
	if e := b.r.Remove(3); e != api.OK {
		t.Errorf("Remove(3) = %d; want OK", e)
	}
	list(1, 2, 4)
	if e := b.r.Remove(9); e != api.ErrRing {
		t.Errorf("Remove(9) = %d; want ErrRing", e)
	}
	if e := b.r.Add(4); e != api.ErrTaken {
		t.Errorf("Add(4) = %d; want ErrTaken", e)
	}
	if e := b.r.Add(-1); e != api.ErrArg {
		t.Errorf("Add(-1) = %d; want ErrArg", e)
	}
	list(1, 2, 4)
}

// The numbers of the errors are the document's.
func TestP19_2Errors(t *testing.T) {
	if api.ErrNil != 1 || api.ErrArg != 2 || api.ErrNoMem != 4 || api.ErrTaken != 91 || api.ErrRing != 190 {
		t.Errorf("%d, %d, %d, %d, %d", api.ErrNil, api.ErrArg, api.ErrNoMem, api.ErrTaken, api.ErrRing)
	}
}

// Wherever the hand stands, it stands there still, and what is added is last of the row.
func TestP19_2AddAheadOfTheHand(t *testing.T) {
	each(t, 8, func(b *both) {
		row := slices.Clone(b.k)
		for _, id := range []int{40, 24, 30, 50} {
			b.add(id)
			b.hold()
			row = append(row, id)
			if l := b.r.List(); !slices.Equal(l, row) {
				t.Fatalf("List() = %v; want %v", l, row)
			}
		}
		for range row {
			b.next(-1, no)
		}
	})
}

func TestP19_2AddOfOneThatIsThere(t *testing.T) {
	each(t, 8, func(b *both) {
		for _, id := range slices.Clone(b.k) {
			b.add(id)
			b.hold()
		}
	})
}

func TestP19_2WrongNumbers(t *testing.T) {
	each(t, 4, func(b *both) {
		for _, id := range wrong() {
			if e := b.r.Add(id); e != api.ErrArg {
				t.Fatalf("Add(%d) = %d; want ErrArg", id, e)
			}
			if e := b.r.Remove(id); e != api.ErrRing {
				t.Fatalf("Remove(%d) = %d; want ErrRing", id, e)
			}
		}
		b.hold()
		b.next(-1, no)
	})
}

// All numbers from 0 on may be on a ring, up to the greatest one there is.
func TestP19_2FarNumbers(t *testing.T) {
	b := made(t, 0, 1, 2, 3)
	for _, id := range far() {
		b.remove(id)
		b.add(id)
		b.add(id)
	}
	b.hold()
	for range 2 * len(b.k) {
		b.next(-1, no)
	}
	for _, id := range far() {
		b.remove(id)
		b.remove(id)
		b.hold()
	}
}

// Of each ring each number is taken out; of what is left each one once more; and so on.
func TestP19_2RemoveOfEachOne(t *testing.T) {
	each(t, 7, func(b *both) {
		for _, id := range b.k {
			first := b.again()
			first.remove(id)
			first.hold()
			for _, other := range first.k {
				second := b.again()
				second.remove(id)
				second.remove(other)
				second.remove(id)
				second.hold()
				second.add(id)
				second.hold()
				second.next(-1, no)
				second.next(-1, no)
			}
		}
	})
}

// If the hand stood at the number, it stands at the next one then, at the first one behind the last one.
func TestP19_2RemoveAtTheHand(t *testing.T) {
	each(t, 8, func(b *both) {
		for len(b.k) > 0 {
			b.remove(b.k[0])
			b.hold()
		}
		b.remove(3)
		b.hold()
	})
}

// The number ahead of the hand, last of the row, is taken out.
func TestP19_2RemoveAheadOfTheHand(t *testing.T) {
	each(t, 8, func(b *both) {
		for len(b.k) > 0 {
			b.remove(b.k[len(b.k)-1])
			b.hold()
		}
	})
}

func TestP19_2RemoveOfOneThatIsNotThere(t *testing.T) {
	each(t, 6, func(b *both) {
		for _, id := range append(far(), 24, 25, 40) {
			b.remove(id)
		}
		b.hold()
		b.next(-1, no)
	})
}

// A ring that was emptied is as a new one: the hand stands at the number that is added first.
func TestP19_2EmptiedRing(t *testing.T) {
	each(t, 6, func(b *both) {
		for _, id := range slices.Clone(b.k) {
			b.remove(id)
		}
		b.hold()
		b.next(-1, no)
		for id := range 4 {
			b.add(id)
			b.hold()
		}
		if id, n, e := b.r.Next(-1, no); id != 0 || n != 1 || e != api.OK {
			t.Fatalf("Next(-1, N) = %d, %d, %d; want 0, 1, OK", id, n, e)
		}
	})
}

// full is a ring of as many numbers as one may have.
func full(t *testing.T, by int) *both {
	t.Helper()
	b := made(t)
	for id := range api.MaxFrames {
		if e := b.r.Add(2 * id); e != api.OK {
			t.Fatalf("Add(%d) = %d; want OK", 2*id, e)
		}
		b.k = append(b.k, 2*id)
	}
	for range by {
		b.r.Next(-1, no)
	}
	b.k = b.k.turn(by)
	b.hold()
	return b
}

func TestP19_2FullRing(t *testing.T) {
	for _, by := range []int{0, 1, api.MaxFrames / 2, api.MaxFrames - 1} {
		b := full(t, by)
		for _, id := range []int{1, 3, 2 * api.MaxFrames, 2*api.MaxFrames + 1, math.MaxInt} {
			if e := b.r.Add(id); e != api.ErrNoMem {
				t.Errorf("Add(%d) = %d; want ErrNoMem", id, e)
			}
		}
		b.hold()
		for _, id := range []int{b.k[0], b.k[1], b.k[77], b.k[api.MaxFrames-1]} {
			b.remove(id)
			b.add(1)
			b.add(3)
			b.hold()
			b.remove(1)
			b.add(id)
			b.hold()
		}
	}
}

// That a ring is full is looked for behind all else.
func TestP19_2ErrorsOfAFullRing(t *testing.T) {
	b := full(t, 5)
	for _, id := range []int{0, 2, 4, 10, 4096, 2*api.MaxFrames - 2} {
		if e := b.r.Add(id); e != api.ErrTaken {
			t.Errorf("Add(%d) = %d; want ErrTaken", id, e)
		}
	}
	for _, id := range []int{-1, -2, math.MinInt} {
		if e := b.r.Add(id); e != api.ErrArg {
			t.Errorf("Add(%d) = %d; want ErrArg", id, e)
		}
	}
	b.hold()
}

// P19.3

func TestP19_3Examples(t *testing.T) {
	b := made(t, 1, 2, 3)
	call := func(pinned int, used func(int) bool, want told, row ...int) {
		t.Helper()
		id, n, e := b.r.Next(pinned, used)
		if id != want.id || n != want.looked || e != want.e || !slices.Equal(b.r.List(), row) {
			t.Errorf("Next(%d, ..) = %d, %d, %d, List() = %v; want %v, %v", pinned, id, n, e, b.r.List(), want, row)
		}
	}
	call(-1, no, told{id: 1, looked: 1}, 2, 3, 1)
	call(-1, no, told{id: 2, looked: 1}, 3, 1, 2)
	b.r.Add(4)
	b.r.Remove(3)
	call(1, no, told{id: 2, looked: 2}, 4, 1, 2)
	call(-1, nil, told{e: api.ErrArg}, 4, 1, 2)
	call(-1, yes, told{looked: 7, e: api.ErrRing}, 1, 2, 4)
	b = made(t)
	call(-1, no, told{e: api.ErrRing})
	b = made(t, 5)
	call(5, no, told{looked: 3, e: api.ErrRing}, 5)
}

func TestP19_3WithoutAFunction(t *testing.T) {
	each(t, 4, func(b *both) {
		for _, pinned := range []int{-1, 0, 3, 8, math.MaxInt, math.MinInt} {
			if id, n, e := b.r.Next(pinned, nil); id != 0 || n != 0 || e != api.ErrArg {
				t.Fatalf("of %v: Next(%d, nil) = %d, %d, %d; want 0, 0, ErrArg", b.k, pinned, id, n, e)
			}
			b.hold()
		}
	})
}

// All rings of a few numbers, all places of the hand, each pinned one and none, and all that a function can say.
func TestP19_3EachSaying(t *testing.T) {
	each(t, 4, func(b *both) {
		for _, pinned := range append([]int{-1, 0, 22, math.MaxInt, math.MinInt}, b.k...) {
			for bits := range 1 << (2*len(b.k) + 1) {
				b.again().nextOf(pinned, says(bits))
			}
		}
	})
}

// Next upon Next, by functions that say false at each place in turn.
func TestP19_3OneBehindTheOther(t *testing.T) {
	each(t, 6, func(b *both) {
		most := 2*len(b.k) + 1
		for at := range most + 1 {
			b.nextOf(-1, says(1<<at-1))
			b.nextOf(3, says(1<<at-1))
			b.nextOf(8, says(1<<at-1))
		}
	})
}

// Where none is the answer, the hand has gone on by one, whichever is pinned.
func TestP19_3AllUsed(t *testing.T) {
	each(t, 8, func(b *both) {
		for _, pinned := range append([]int{-1, 22}, b.k...) {
			n, want := len(b.k), b.k.turn(1)
			looked := 2*n + 1
			if n == 0 {
				looked = 0
			}
			id, got, e := b.r.Next(pinned, yes)
			if id != 0 || got != looked || e != api.ErrRing || !slices.Equal(b.r.List(), want) {
				t.Fatalf("Next(%d, Y) = %d, %d, %d, List() = %v; want 0, %d, ErrRing, %v", pinned, id, got, e, b.r.List(), looked, want)
			}
			b.k = want
		}
	})
}

func TestP19_3OneNumber(t *testing.T) {
	b := made(t, 5)
	for at := range 5 {
		b.nextOf(-1, says(1<<at-1))
		b.nextOf(5, says(1<<at-1))
		b.nextOf(4, says(1<<at-1))
	}
}

// A pinned one that is in no ring pins none.
func TestP19_3PinnedOnesThatAreNotThere(t *testing.T) {
	each(t, 4, func(b *both) {
		for _, pinned := range append(append(wrong(), far()...), 22) {
			b.next(pinned, no)
		}
	})
}

// The number 0 is pinned as any other one.
func TestP19_3ZeroPinned(t *testing.T) {
	b := made(t, 0, 1)
	if a := b.next(0, no); a.id != 1 || a.looked != 2 {
		t.Errorf("Next(0, N) = %v; want 1, 2 looked at", a)
	}
	b = made(t, 0)
	if a := b.next(0, no); a.e != api.ErrRing || a.looked != 3 {
		t.Errorf("Next(0, N) = %v; want ErrRing, 3 looked at", a)
	}
	b = made(t, 0, 1)
	if a := b.next(-1, no); a.id != 0 || a.looked != 1 || a.e != api.OK {
		t.Errorf("Next(-1, N) = %v; want 0, 1 looked at", a)
	}
}

func TestP19_3FullRing(t *testing.T) {
	b := full(t, 9)
	last := b.k[len(b.k)-1]
	b.next(-1, yes)
	b.next(last, func(id int) bool { return id != last })
	b.next(-1, func(id int) bool { return id != last })
	b.nextOf(-1, cleared(b.k, 0))
	asked := 0
	id, n, e := b.r.Next(-1, func(int) bool { asked++; return asked <= 2*api.MaxFrames })
	if id != b.k[0] || n != 2*api.MaxFrames+1 || e != api.OK || asked != n {
		t.Errorf("Next(-1, ..) = %d, %d, %d, asked %d times; want %d, %d, OK", id, n, e, asked, b.k[0], 2*api.MaxFrames+1)
	}
}

// P19.4

func TestP19_4AskedInOrder(t *testing.T) {
	b := turned(t, 1, 7, 1, 4)
	for _, c := range []struct {
		pinned int
		used   func(int) bool
		want   []int
	}{
		{-1, yes, []int{1, 4, 7, 1, 4, 7, 1}},
		{-1, no, []int{4}},
		{7, yes, []int{1, 4, 1, 4}},
		{1, no, []int{4}},
		{7, no, []int{1}},
		{9, func(id int) bool { return id != 1 }, []int{4, 7, 1}},
	} {
		if a := next(b.r, c.pinned, c.used); !slices.Equal(a.asked, c.want) {
			t.Errorf("Next(%d, ..) asks of %v; want %v", c.pinned, a.asked, c.want)
		}
	}
}

// The pinned one is never asked of, however often it is looked at.
func TestP19_4PinnedOneIsNotAsked(t *testing.T) {
	each(t, 6, func(b *both) {
		for _, pinned := range slices.Clone(b.k) {
			for _, used := range []func(int) bool{yes, no} {
				a := b.next(pinned, used)
				if slices.Contains(a.asked, pinned) {
					t.Fatalf("Next(%d, ..) asks of %v", pinned, a.asked)
				}
			}
		}
	})
}

// Asking again asks anew: nothing is kept of what was said.
func TestP19_4NothingIsKept(t *testing.T) {
	b := made(t, 1, 2, 3)
	b.next(-1, yes)
	b.next(-1, no)
	b.nextOf(2, says(1))
	b.next(-1, func(id int) bool { return id != 2 })
	b.next(-1, func(id int) bool { return id == 2 })
	b.next(-1, no)
}

// A function that panics says of no number that it was not used: Next ends as with one that says true, and the ring is whole.
func TestP19_4FunctionThatPanics(t *testing.T) {
	each(t, 5, func(b *both) {
		for _, pinned := range append([]int{-1}, b.k...) {
			want := b.k.next(pinned, yes)
			got := next(b.r, pinned, func(id int) bool {
				if id%2 == 0 {
					var none []int
					return none[id] == 0
				}
				panic("no answer")
			})
			if !got.is(want) {
				t.Fatalf("Next(%d, panics) = %v; want %v", pinned, got, want)
			}
			b.hold()
		}
		b.add(40)
		b.next(-1, no)
		b.hold()
	})
}

func TestP19_4FunctionThatPanicsOnce(t *testing.T) {
	b := made(t, 1, 2, 3)
	got := next(b.r, -1, func(id int) bool {
		if id == 1 {
			panic(nil)
		}
		return false
	})
	if want := (told{2, 2, api.OK, []int{1, 2}}); !got.is(want) {
		t.Errorf("Next(-1, ..) = %v; want %v", got, want)
	}
}

// Nothing is promised of a function that changes the ring, but that Next ends and does not panic; the ring is good then for all calls.
func TestP19_4FunctionThatChangesTheRing(t *testing.T) {
	for name, change := range map[string]func(r *ring.Ring, id, asked int){
		"removes it":             func(r *ring.Ring, id, _ int) { r.Remove(id) },
		"removes all":            func(r *ring.Ring, _, _ int) { removeAll(r) },
		"removes the next":       func(r *ring.Ring, _, _ int) { removeAt(r, 0) },
		"removes the last":       func(r *ring.Ring, _, _ int) { removeAt(r, -1) },
		"adds":                   func(r *ring.Ring, _, asked int) { r.Add(100 + asked) },
		"adds and removes":       func(r *ring.Ring, id, asked int) { r.Add(100 + asked); r.Remove(id) },
		"removes and adds":       func(r *ring.Ring, id, _ int) { r.Remove(id); r.Add(id) },
		"goes on":                func(r *ring.Ring, _, _ int) { r.Next(-1, no) },
		"removes all and panics": func(r *ring.Ring, _, _ int) { removeAll(r); panic("no answer") },
		"removes and panics":     func(r *ring.Ring, id, _ int) { r.Remove(id); panic("no answer") },
	} {
		for _, say := range []bool{true, false} {
			each(t, 5, func(b *both) {
				asked := 0
				_, looked, _ := b.r.Next(-1, func(id int) bool {
					asked++
					change(b.r, id, asked)
					return say
				})
				if most := 2*len(b.k) + 1; looked > most {
					t.Fatalf("%s: %d looked at; want %d at most", name, looked, most)
				}
				b.k = b.r.List()
				b.add(50)
				b.hold()
				b.next(-1, yes)
				b.next(-1, no)
				b.remove(50)
				b.hold()
			})
		}
	}
}

func removeAll(r *ring.Ring) {
	for _, id := range r.List() {
		r.Remove(id)
	}
}

// removeAt takes out the number at this place of the row, below 0 told from its end, if there is one.
func removeAt(r *ring.Ring, at int) {
	if l := r.List(); len(l) > 0 {
		r.Remove(l[(at+len(l))%len(l)])
	}
}

// P19.5

// Bits that are cleared when they are asked: all of them, of each ring, with each pinned one and none.
func TestP19_5BitsThatAreCleared(t *testing.T) {
	each(t, 6, func(b *both) {
		n := len(b.k)
		for _, pinned := range append([]int{-1}, b.k...) {
			if n == 0 || n == 1 && pinned == b.k[0] {
				continue
			}
			for bits := range 1 << n {
				a := b.again().nextOf(pinned, cleared(b.k, bits))
				if a.e != api.OK || a.looked > 2*n+1 || a.id == pinned {
					t.Fatalf("of %v: Next(%d, ..) = %v", b.k, pinned, a)
				}
			}
		}
	})
}

// A function that says true once of each number, at the first asking. The second time the hand stands at the pinned one, so that one more is looked at.
func TestP19_5FullRing(t *testing.T) {
	b := full(t, 3)
	for _, c := range []struct{ pinned, id, looked int }{
		{-1, b.k[0], api.MaxFrames + 1},
		{b.k[1], b.k[2], api.MaxFrames + 2},
		{b.k[2], b.k[3], api.MaxFrames + 1},
	} {
		was := map[int]bool{}
		id, n, e := b.r.Next(c.pinned, func(id int) bool {
			first := !was[id]
			was[id] = true
			return first
		})
		if id != c.id || n != c.looked || e != api.OK {
			t.Errorf("Next(%d, ..) = %d, %d, %d; want %d, %d, OK", c.pinned, id, n, e, c.id, c.looked)
		}
	}
}

// Only one number is not pinned, or none is: then none answers.
func TestP19_5PinnedAlone(t *testing.T) {
	b := made(t, 3)
	for bits := range 2 {
		if a := b.nextOf(3, cleared(b.k, bits)); a.e != api.ErrRing || a.looked != 3 || len(a.asked) != 0 {
			t.Errorf("Next(3, ..) = %v; want ErrRing, 3 looked at", a)
		}
	}
	b.add(8)
	for _, c := range []struct{ pinned, id int }{{3, 8}, {8, 3}, {3, 8}, {8, 3}} {
		for bits := range 4 {
			if a := b.nextOf(c.pinned, cleared(b.k, bits)); a.e != api.OK || a.id != c.id || a.looked > 5 {
				t.Errorf("Next(%d, ..) = %v; want %d", c.pinned, a, c.id)
			}
		}
	}
}

// P19.6

// Next only turns the row: by as many as were looked at.
func TestP19_6NextTurns(t *testing.T) {
	each(t, 5, func(b *both) {
		for _, pinned := range append([]int{-1}, b.k...) {
			for bits := range 1 << len(b.k) {
				ahead := known(b.r.List())
				_, looked, _ := b.r.Next(pinned, cleared(ahead, bits)())
				if l := b.r.List(); !slices.Equal(l, ahead.turn(looked)) {
					t.Fatalf("List() = %v behind Next(%d, ..), %d looked at; ahead of it %v", l, pinned, looked, ahead)
				}
			}
		}
	})
}

// Calls by chance, against the plain row.
func TestP19_6CallsByChance(t *testing.T) {
	d := dice(19)
	for _, numbers := range []int{1, 2, 3, 5, 9, 40} {
		b := made(t)
		for range 4000 {
			id := d.below(numbers+1) - 1
			switch d.below(5) {
			case 0, 1:
				b.add(id)
			case 2:
				b.remove(id)
			case 3:
				b.nextOf(id, says(d.below(1<<20)))
			default:
				b.nextOf(id, cleared(b.k, d.below(1<<30)))
			}
			b.hold()
		}
	}
}

// List has each number once that was added and not removed.
func TestP19_6EachNumberOnce(t *testing.T) {
	d, b, in := dice(6), made(t), map[int]bool{}
	for range 3000 {
		id := d.below(300)
		switch {
		case d.below(3) == 0:
			b.r.Next(d.below(300), cleared(b.r.List(), d.below(1<<30))())
		case b.r.Add(id) == api.OK:
			if in[id] {
				t.Fatalf("%d was added twice", id)
			}
			in[id] = true
		case b.r.Remove(id) == api.OK:
			if !in[id] {
				t.Fatalf("%d was removed twice", id)
			}
			delete(in, id)
		}
		l := b.r.List()
		for _, id := range l {
			if !in[id] {
				t.Fatalf("List() has %d, which was not added", id)
			}
		}
		slices.Sort(l)
		if len(slices.Compact(l)) != len(in) {
			t.Fatalf("List() has %d numbers; want %d", len(l), len(in))
		}
	}
}

// The same calls tell the same, of whichever ring.
func TestP19_6TwoRingsAlike(t *testing.T) {
	a, b, d, f := made(t), made(t), dice(3), dice(3)
	step := func(b *both, d *dice) string {
		id := d.below(12)
		switch d.below(3) {
		case 0:
			return fmt.Sprint(b.r.Add(id))
		case 1:
			return fmt.Sprint(b.r.Remove(id))
		}
		return next(b.r, id, says(d.below(1<<20))()).String()
	}
	for range 2000 {
		if one, other := step(a, &d), step(b, &f); one != other || !slices.Equal(a.r.List(), b.r.List()) {
			t.Fatalf("%s, %s; %v, %v", one, other, a.r.List(), b.r.List())
		}
	}
}

// P19.7

// Numbers that are not used are told one by one, each once a round, in the order in which they were added.
func TestP19_7EachOnceARound(t *testing.T) {
	for n := 1; n < 12; n++ {
		b := made(t, row(n)...)
		for range 3 {
			for _, want := range row(n) {
				if id, looked, e := b.r.Next(-1, no); id != want || looked != 1 || e != api.OK {
					t.Fatalf("Next(-1, N) = %d, %d, %d; want %d, 1, OK", id, looked, e, want)
				}
			}
		}
	}
}

func TestP19_7ButForThePinnedOne(t *testing.T) {
	for n := 2; n < 10; n++ {
		for at, pinned := range row(n) {
			b, others := made(t, row(n)...), slices.Delete(row(n), at, at+1)
			for range 3 {
				for _, want := range others {
					if id, _, e := b.r.Next(pinned, no); id != want || e != api.OK {
						t.Fatalf("Next(%d, N) = %d, %d; want %d, OK", pinned, id, e, want)
					}
				}
			}
		}
	}
}

// One that is added, wherever the hand stands, is told when all others have been told, and from then on once a round.
func TestP19_7AddedIsLastOfItsRound(t *testing.T) {
	each(t, 8, func(b *both) {
		round := append(slices.Clone(b.k), 50)
		b.add(50)
		for range 3 {
			for _, want := range round {
				if id, _, e := b.r.Next(-1, no); id != want || e != api.OK {
					t.Fatalf("Next(-1, N) = %d, %d; want %d, OK", id, e, want)
				}
			}
		}
	})
}

// One that is taken out and added again is as a new one.
func TestP19_7AddedAgain(t *testing.T) {
	each(t, 6, func(b *both) {
		for _, id := range slices.Clone(b.k) {
			again := b.again()
			again.remove(id)
			again.add(id)
			if last := again.k[len(again.k)-1]; last != id {
				t.Fatalf("%d is last; want %d", last, id)
			}
			for _, want := range slices.Clone(again.k) {
				if got, _, _ := again.r.Next(-1, no); got != want {
					t.Fatalf("Next(-1, N) = %d; want %d", got, want)
				}
			}
		}
	})
}
