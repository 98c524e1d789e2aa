package slots_test

import (
	"math"
	"slices"
	"testing"

	"cofferdam/api"
	"cofferdam/slots"
)

// Sizes of areas: the ends, and those about each end of a word.
var sizes = []int{0, 1, 2, 3, 31, 32, 33, 62, 63, 64, 65, 66, 127, 128, 129, 191, 192, 193, 500, api.MaxSlots - 65, api.MaxSlots - 64, api.MaxSlots - 63, api.MaxSlots - 1, api.MaxSlots}

func made(t *testing.T, n int) *slots.Slots {
	t.Helper()
	s, e := slots.New(n)
	if s == nil || e != api.OK {
		t.Fatalf("New(%d) = %v, %d", n, s, e)
	}
	return s
}

// dice are numbers that look like chance, the same ones in each run.
type dice uint64

func (d *dice) below(n int) int {
	*d = *d*6364136223846793005 + 1442695040888963407
	return int(uint64(*d) >> 33 % uint64(n))
}

// known is what an area ought to be: of each slot whether it is taken.
type known []bool

func (k known) used() []int {
	var l []int
	for slot, taken := range k {
		if taken {
			l = append(l, slot)
		}
	}
	return l
}

// hold fails the test unless the area is as it is known, by Free and by Used.
func (k known) hold(t *testing.T, s *slots.Slots) {
	t.Helper()
	want := k.used()
	if n := s.Free(); n != len(k)-len(want) {
		t.Fatalf("%d slots: Free() = %d; want %d", len(k), n, len(k)-len(want))
	}
	if l := s.Used(); !slices.Equal(l, want) {
		t.Fatalf("%d slots: Used() = %v; want %v", len(k), l, want)
	}
}

// take fails the test unless Take tells the least free slot, or that there is none.
func (k known) take(t *testing.T, s *slots.Slots) {
	t.Helper()
	want, error := slices.Index(k, false), api.OK
	if want < 0 {
		want, error = 0, api.ErrNoMem
	} else {
		k[want] = true
	}
	if slot, e := s.Take(); slot != want || e != error {
		t.Fatalf("%d slots: Take() = %d, %d; want %d, %d", len(k), slot, e, want, error)
	}
}

// give fails the test unless Give tells rightly whether the slot was taken.
func (k known) give(t *testing.T, s *slots.Slots, slot int) {
	t.Helper()
	want := api.ErrTaken
	if slot >= 0 && slot < len(k) && k[slot] {
		want, k[slot] = api.OK, false
	}
	if e := s.Give(slot); e != want {
		t.Fatalf("%d slots: Give(%d) = %d; want %d", len(k), slot, e, want)
	}
}

// full is an area all slots of which are taken, and what it is.
func full(t *testing.T, n int) (*slots.Slots, known) {
	t.Helper()
	s, k := made(t, n), make(known, n)
	for range n {
		k.take(t, s)
	}
	return s, k
}

// without is an area all slots of which are taken but those that are told, and what it is.
func without(t *testing.T, n int, free ...int) (*slots.Slots, known) {
	t.Helper()
	s, k := full(t, n)
	for _, slot := range free {
		k.give(t, s, slot)
	}
	return s, k
}

// Slots that an area of n slots has not; many are one that it has, but for bits that a narrower number would lose.
func noSlots(n int) []int {
	l := []int{-1, -2, -63, -64, -65, -128, -n, -n - 1, n, n + 1, n + 62, n + 63, n + 64, n + 65, 2*n + 64, api.MaxSlots, api.MaxSlots + 1, 2 * api.MaxSlots, -api.MaxSlots, math.MaxInt, math.MaxInt - 1, math.MinInt, math.MinInt + 1, math.MaxInt / 64, math.MinInt / 64}
	for shift := 6; shift < 63; shift++ {
		l = append(l, 1<<shift, 1<<shift+1, -1<<shift, 1-1<<shift, -1-1<<shift)
	}
	return slices.DeleteFunc(l, func(slot int) bool { return slot >= 0 && slot < n })
}

// Areas that New did not make.
func noAreas() []*slots.Slots { return []*slots.Slots{nil, {}, new(slots.Slots)} }

// Areas that are none

func TestP18_2NoArea(t *testing.T) {
	for i, s := range noAreas() {
		for range 2 {
			if slot, e := s.Take(); slot != 0 || e != api.ErrNil {
				t.Errorf("area %d: Take() = %d, %d; want 0, ErrNil", i, slot, e)
			}
			for _, slot := range append(noSlots(0), 0, 1, 64) {
				if e := s.Give(slot); e != api.ErrNil {
					t.Errorf("area %d: Give(%d) = %d; want ErrNil", i, slot, e)
				}
			}
		}
	}
}

func TestP18_3NoArea(t *testing.T) {
	for i, s := range noAreas() {
		for range 2 {
			if n := s.Free(); n != 0 {
				t.Errorf("area %d: Free() = %d; want 0", i, n)
			}
			if l := s.Used(); len(l) != 0 {
				t.Errorf("area %d: Used() = %v; want none", i, l)
			}
			s.Take()
			s.Give(0)
		}
	}
}

// P18.1

func TestP18_1New(t *testing.T) {
	for n := range api.MaxSlots + 1 {
		make(known, n).hold(t, made(t, n))
	}
}

func TestP18_1WrongNumbers(t *testing.T) {
	wrong := []int{-1, -2, -63, -64, -65, -api.MaxSlots, api.MaxSlots + 1, api.MaxSlots + 2, api.MaxSlots + 64, 2 * api.MaxSlots, math.MaxInt, math.MaxInt - 1, math.MinInt, math.MinInt + 1}
	for shift := 11; shift < 63; shift++ {
		wrong = append(wrong, 1<<shift, 1<<shift+1, -1<<shift, 1-1<<shift)
	}
	for _, n := range wrong {
		if s, e := slots.New(n); s != nil || e != api.ErrArg {
			t.Errorf("New(%d) = %v, %d; want nil, ErrArg", n, s, e)
		}
	}
}

// An area without slots is an area: what is asked of it is not ErrNil.
func TestP18_1WithoutSlots(t *testing.T) {
	s, k := made(t, 0), known{}
	for _, slot := range append(noSlots(0), 0) {
		k.take(t, s)
		k.give(t, s, slot)
		k.hold(t, s)
	}
}

func TestP18_1AreasAreApart(t *testing.T) {
	a, k := without(t, 70, 3, 64, 69)
	b, other := made(t, 70), make(known, 70)
	other.hold(t, b)
	for range 66 {
		other.take(t, b)
	}
	other.give(t, b, 64)
	k.hold(t, a)
	k.take(t, a)
	other.hold(t, b)
}

// P18.2

func TestP18_2Examples(t *testing.T) {
	for _, n := range []int{-1, 1025} {
		if s, e := slots.New(n); s != nil || e != api.ErrArg {
			t.Errorf("New(%d) = %v, %d; want nil, ErrArg", n, s, e)
		}
	}
	if slot, e := made(t, 0).Take(); slot != 0 || e != api.ErrNoMem {
		t.Errorf("New(0).Take() = %d, %d; want 0, ErrNoMem", slot, e)
	}
	s := made(t, 3)
	take := func(want int, error api.Errno) {
		t.Helper()
		if slot, e := s.Take(); slot != want || e != error {
			t.Errorf("Take() = %d, %d; want %d, %d", slot, e, want, error)
		}
	}
	give := func(slot int, error api.Errno) {
		t.Helper()
		if e := s.Give(slot); e != error {
			t.Errorf("Give(%d) = %d; want %d", slot, e, error)
		}
	}
	take(0, api.OK)
	take(1, api.OK)
	take(2, api.OK)
	take(0, api.ErrNoMem)
	give(1, api.OK)
	give(1, api.ErrTaken)
	give(3, api.ErrTaken)
	give(-1, api.ErrTaken)
	if l := s.Used(); !slices.Equal(l, []int{0, 2}) || s.Free() != 1 {
		t.Errorf("Used() = %v, Free() = %d; want 0 2, 1", l, s.Free())
	}
	give(0, api.OK)
	take(0, api.OK)
	take(1, api.OK)
}

// The numbers of the errors are the document's.
func TestP18_2Errors(t *testing.T) {
	if api.ErrNil != 1 || api.ErrArg != 2 || api.ErrNoMem != 4 || api.ErrTaken != 91 {
		t.Errorf("%d, %d, %d, %d", api.ErrNil, api.ErrArg, api.ErrNoMem, api.ErrTaken)
	}
}

func TestP18_2NoneIsFree(t *testing.T) {
	for _, n := range sizes {
		s, k := full(t, n)
		for range 3 {
			k.take(t, s)
			k.hold(t, s)
		}
	}
}

// Each slot of full areas comes back when it is given, and is then the one that is taken.
func TestP18_2EachSlotGivenAndTaken(t *testing.T) {
	for _, n := range sizes {
		s, k := full(t, n)
		for slot := range n {
			k.give(t, s, slot)
			k.hold(t, s)
			k.take(t, s)
		}
		k.hold(t, s)
	}
}

// Of two free slots the lesser one is taken first, in whichever order they were given back.
func TestP18_2TheLeastOfTwo(t *testing.T) {
	const n = 200
	s, k := full(t, n)
	for a := range n {
		for _, b := range []int{0, 1, 62, 63, 64, 65, 126, 127, 128, 129, 191, 192, n - 1} {
			k.give(t, s, a)
			if a != b {
				k.give(t, s, b)
				k.take(t, s)
			}
			k.take(t, s)
		}
	}
	k.hold(t, s)
}

func TestP18_2GiveOfAFreeSlot(t *testing.T) {
	for _, n := range sizes {
		s, k := made(t, n), make(known, n)
		for slot := range n {
			k.give(t, s, slot)
		}
		k.hold(t, s)
		for range n / 2 {
			k.take(t, s)
		}
		for slot := n / 2; slot < n; slot++ {
			k.give(t, s, slot)
		}
		k.hold(t, s)
	}
}

func TestP18_2GiveTwice(t *testing.T) {
	for _, n := range sizes {
		s, k := full(t, n)
		for slot := n - 1; slot >= 0; slot-- {
			k.give(t, s, slot)
			k.give(t, s, slot)
		}
		k.hold(t, s)
		k.take(t, s)
	}
}

// Slots that there are not can't be given back, whether all are taken, some, or none; and none of them is taken later on.
func TestP18_2WrongSlots(t *testing.T) {
	for _, n := range sizes {
		for _, takes := range []int{0, n / 2, n} {
			s, k := made(t, n), make(known, n)
			for range takes {
				k.take(t, s)
			}
			for _, slot := range noSlots(n) {
				k.give(t, s, slot)
			}
			k.hold(t, s)
			for range n - takes + 1 {
				k.take(t, s)
			}
			k.hold(t, s)
		}
	}
}

// P18.3

func TestP18_3EachSlotAlone(t *testing.T) {
	for _, n := range []int{1, 64, 65, 129, 300, api.MaxSlots} {
		for only := range n {
			s := made(t, n)
			for range only + 1 {
				s.Take()
			}
			for slot := range only {
				s.Give(slot)
			}
			if l := s.Used(); !slices.Equal(l, []int{only}) || s.Free() != n-1 {
				t.Fatalf("%d slots: Used() = %v, Free() = %d; want %d, %d", n, l, s.Free(), only, n-1)
			}
		}
	}
}

func TestP18_3EachSlotMissing(t *testing.T) {
	for _, n := range []int{1, 64, 65, 129, 300} {
		for slot := range n {
			s, k := without(t, n, slot)
			k.hold(t, s)
		}
	}
}

func TestP18_3AskingChangesNothing(t *testing.T) {
	s, k := without(t, 130, 0, 63, 64, 129)
	for range 3 {
		k.hold(t, s)
	}
	for range 5 {
		k.take(t, s)
	}
}

func TestP18_3UsedIsNewMemory(t *testing.T) {
	s, k := without(t, 9, 1, 3, 5, 7)
	want := []int{0, 2, 4, 6, 8}
	a, b := s.Used(), s.Used()
	for i := range a {
		a[i] = -1
	}
	_ = append(a[:0], make([]int, cap(a))...)
	if !slices.Equal(b, want) {
		t.Errorf("two answers of Used share memory: %v", b)
	}
	k.hold(t, s)
	k.take(t, s)
	k.give(t, s, 8)
	if !slices.Equal(b, want) {
		t.Errorf("a list that was answered was changed later on: %v", b)
	}
	k.hold(t, s)
}

// P18.4

// Behind k Takes of a new area its slots 0 to k - 1 are taken.
func TestP18_4TakesOfANewArea(t *testing.T) {
	for _, n := range sizes {
		s, k := made(t, n), make(known, n)
		for range n {
			k.take(t, s)
			k.hold(t, s)
		}
		k.take(t, s)
		k.hold(t, s)
	}
}

// each calls what is handed in with each pick of some slots.
func each(of []int, call func(picked []int)) {
	for bits := range 1 << len(of) {
		var picked []int
		for i, slot := range of {
			if bits>>i&1 == 1 {
				picked = append(picked, slot)
			}
		}
		call(picked)
	}
}

// All that areas of a few slots can be, and each call of each of them.
func TestP18_4EachStateOfAFewSlots(t *testing.T) {
	for n := range 8 {
		all := make([]int, n)
		for slot := range n {
			all[slot] = slot
		}
		each(all, func(free []int) {
			for slot := -2; slot < n+2; slot++ {
				s, k := without(t, n, free...)
				k.give(t, s, slot)
				k.hold(t, s)
				k.take(t, s)
				k.hold(t, s)
			}
		})
	}
}

// The same about the ends of words, and the last slots.
func TestP18_4EachStateAboutTheEndsOfWords(t *testing.T) {
	for _, n := range []int{66, 128, 130} {
		about := []int{0, 62, 63, 64, 65, n - 2, n - 1}
		slices.Sort(about)
		about = slices.Compact(about)
		each(about, func(free []int) {
			for _, slot := range append(about, -1, n, n+1) {
				s, k := without(t, n, free...)
				k.give(t, s, slot)
				for range len(free) + 2 {
					k.take(t, s)
					k.hold(t, s)
				}
			}
		})
	}
}

// No slot is told twice, but it was given back between; held by who took it, without a look at Used.
func TestP18_4NoSlotIsToldTwice(t *testing.T) {
	for seed, n := range sizes {
		s, chance := made(t, n), dice(seed+180)
		var held []int
		for range 3000 {
			if i := chance.below(n + 1); i < len(held) && chance.below(3) > 0 {
				if e := s.Give(held[i]); e != api.OK {
					t.Fatalf("%d slots: Give(%d) = %d; it was taken", n, held[i], e)
				}
				held = slices.Delete(held, i, i+1)
				continue
			}
			slot, e := s.Take()
			if full := len(held) == n; full != (e == api.ErrNoMem) {
				t.Fatalf("%d slots, %d held: Take() = %d, %d", n, len(held), slot, e)
			}
			if e != api.OK {
				continue
			}
			if slot < 0 || slot >= n || slices.Contains(held, slot) {
				t.Fatalf("%d slots: Take() = %d; held are %v", n, slot, held)
			}
			held = append(held, slot)
		}
	}
}

// Free and Used are together all slots, whatever was called, and what was refused.
func TestP18_4RunsOfCalls(t *testing.T) {
	for seed, n := range sizes {
		s, k, chance, no := made(t, n), make(known, n), dice(seed+280), noSlots(n)
		for step := range 4000 {
			switch chance.below(5) {
			case 0, 1:
				k.take(t, s)
			case 2, 3:
				k.give(t, s, chance.below(n+1))
			default:
				k.give(t, s, no[chance.below(len(no))])
			}
			if l := s.Used(); s.Free()+len(l) != n || !slices.IsSorted(l) {
				t.Fatalf("%d slots: Free() = %d, Used() = %v", n, s.Free(), l)
			}
			if step%20 == 0 {
				k.hold(t, s)
			}
		}
		k.hold(t, s)
	}
}

// Given back one and all, an area is as a new one.
func TestP18_4GivenBackOneAndAll(t *testing.T) {
	for seed, n := range sizes {
		chance := dice(seed + 380)
		s, k := full(t, n)
		for l := k.used(); len(l) > 0; {
			i := chance.below(len(l))
			k.give(t, s, l[i])
			l = slices.Delete(l, i, i+1)
		}
		k.hold(t, s)
		for range n + 1 {
			k.take(t, s)
		}
		k.hold(t, s)
	}
}
