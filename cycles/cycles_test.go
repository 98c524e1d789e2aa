package cycles_test

import (
	"math"
	"math/big"
	"slices"
	"testing"

	"cofferdam/api"
	"cofferdam/cycles"
)

const (
	maxSlice = uint64(api.MaxSlice)
	maxTicks = uint64(api.MaxTicks)
	lastTick = maxTicks - 1
	top      = uint64(math.MaxUint64)
)

// tooLong are numbers above MaxSlice, some of which make small ones when they are added, doubled or cut.
var tooLong = []uint64{maxSlice + 1, 2 * maxSlice, 1 << 31, 1 << 32, 1<<32 + 1, maxTicks, 1<<63 - 1, 1 << 63, 1<<63 + 1, top - maxSlice, top - 1, top}

// tooLate are numbers above MaxTicks.
var tooLate = []uint64{maxTicks + 1, maxTicks + 2, 2 * maxTicks, 1 << 62, 1<<63 - 1, 1 << 63, 1<<63 + 1, top - maxTicks, top - 1, top}

// lengths are numbers of cycles from 1 to MaxSlice.
var lengths = []uint64{1, 2, 3, 7, 100, 1 << 16, maxSlice / 2, maxSlice - 1, maxSlice}

// pads are lengths, and none.
var pads = append([]uint64{0}, lengths...)

// numbers are those of slices.
var numbers = []uint64{0, 1, 2, 3, 1000, 1<<31 - 1, 1 << 32, maxTicks / 2, lastTick - 1, lastTick}

func made(t *testing.T, slice, pad, first uint64) *cycles.Counter {
	t.Helper()
	c, e := cycles.New(slice, pad, first)
	if c == nil || e != api.OK {
		t.Fatalf("New(%d, %d, %d) = %v, %d", slice, pad, first, c, e)
	}
	return c
}

// stands fails the test unless the counter tells those three numbers.
func stands(t *testing.T, c *cycles.Counter, now, number, left uint64) {
	t.Helper()
	if c.Now() != now || c.Number() != number || c.Left() != left {
		t.Fatalf("stands at the cycle %d, in the slice %d, with %d left, want %d, %d, %d", c.Now(), c.Number(), c.Left(), now, number, left)
	}
}

// is fails the test unless a call has answered that error.
func is(t *testing.T, what string, e, want api.Errno) {
	t.Helper()
	if e != want {
		t.Fatalf("%s = %d, want %d", what, e, want)
	}
}

func spend(t *testing.T, c *cycles.Counter, n uint64) {
	t.Helper()
	is(t, "Spend", c.Spend(n), api.OK)
}

// dice are numbers that look like chance, the same ones in each run.
type dice uint64

func (d *dice) below(n uint64) uint64 {
	*d = *d*6364136223846793005 + 1442695040888963407
	return uint64(*d) >> 33 % n
}

// exact is where the slice k begins, in numbers that can't wrap.
func exact(k, slice, pad uint64) *big.Int {
	each := new(big.Int).Add(new(big.Int).SetUint64(slice), new(big.Int).SetUint64(pad))
	return each.Mul(each, new(big.Int).SetUint64(k))
}

func TestP5_1Examples(t *testing.T) {
	stands(t, made(t, 100, 10, 2), 220, 2, 100)
	if c, e := cycles.New(0, 1, 0); c != nil || e != api.ErrArg {
		t.Errorf("New(0, 1, 0) = %v, %d", c, e)
	}
	if c, e := cycles.New(1, 0, maxTicks); c != nil || e != api.ErrHalt {
		t.Errorf("New(1, 0, 2^40) = %v, %d", c, e)
	}
	stands(t, made(t, 4194304, 4194304, lastTick), lastTick<<23, lastTick, 4194304)
}

func TestP5_1BeginsAtTheSlice(t *testing.T) {
	for _, slice := range lengths {
		for _, pad := range pads {
			for _, first := range numbers {
				stands(t, made(t, slice, pad, first), exact(first, slice, pad).Uint64(), first, slice)
			}
		}
	}
}

func TestP5_1LengthsThatMayNotBe(t *testing.T) {
	refused := func(slice, pad, first uint64) {
		if c, e := cycles.New(slice, pad, first); c != nil || e != api.ErrArg {
			t.Errorf("New(%d, %d, %d) = %v, %d, want ErrArg", slice, pad, first, c, e)
		}
	}
	for _, first := range []uint64{0, 1, lastTick, maxTicks, top} {
		for _, pad := range append(slices.Clone(pads), tooLong...) {
			refused(0, pad, first)
			for _, slice := range tooLong {
				refused(slice, pad, first)
			}
		}
		for _, pad := range tooLong {
			for _, slice := range lengths {
				refused(slice, pad, first)
			}
		}
	}
}

func TestP5_1BehindTheLastSlice(t *testing.T) {
	for _, first := range append([]uint64{maxTicks}, tooLate...) {
		for _, slice := range lengths {
			if c, e := cycles.New(slice, maxSlice, first); c != nil || e != api.ErrHalt {
				t.Errorf("New(%d, MaxSlice, %d) = %v, %d, want ErrHalt", slice, first, c, e)
			}
		}
	}
}

func TestP5_2TellsWhatPassed(t *testing.T) {
	c := made(t, 100, 10, 2)
	passed := uint64(0)
	for _, n := range []uint64{1, 0, 9, 30, 60, 0} {
		spend(t, c, n)
		passed += n
		stands(t, c, 220+passed, 2, 100-passed)
		stands(t, c, 220+passed, 2, 100-passed)
	}
	stands(t, c, 320, 2, 0)
}

func TestP5_2OfNone(t *testing.T) {
	var none *cycles.Counter
	stands(t, none, 0, 0, 0)
	stands(t, new(cycles.Counter), 0, 0, 0)
}

func TestP5_2CountersApart(t *testing.T) {
	a := made(t, 100, 10, 2)
	b := made(t, 100, 10, 2)
	spend(t, a, 30)
	stands(t, b, 220, 2, 100)
	is(t, "Switch", b.Switch(0), api.OK)
	stands(t, a, 250, 2, 70)
}

func TestP5_3Example(t *testing.T) {
	c := made(t, 100, 10, 2)
	stands(t, c, 220, 2, 100)
	is(t, "Spend(60)", c.Spend(60), api.OK)
	is(t, "Spend(41)", c.Spend(41), api.ErrSpent)
	stands(t, c, 280, 2, 40)
}

func TestP5_3ToTheLastCycle(t *testing.T) {
	for _, slice := range lengths {
		for _, n := range []uint64{0, 1, slice / 2, slice - 1, slice} {
			c := made(t, slice, 5, 3)
			at := 3 * (slice + 5)
			spend(t, c, n)
			stands(t, c, at+n, 3, slice-n)
			is(t, "Spend(left + 1)", c.Spend(slice-n+1), api.ErrSpent)
			stands(t, c, at+n, 3, slice-n)
			spend(t, c, slice-n)
			stands(t, c, at+slice, 3, 0)
			is(t, "Spend(1)", c.Spend(1), api.ErrSpent)
			is(t, "Spend(0)", c.Spend(0), api.OK)
			stands(t, c, at+slice, 3, 0)
		}
	}
}

// What has passed and what is asked for would be a small sum, if it wrapped: it is refused.
func TestP5_3MoreThanThereIs(t *testing.T) {
	for _, slice := range lengths {
		for _, first := range []uint64{0, 7, lastTick} {
			for _, passed := range []uint64{0, 1, slice / 2, slice} {
				c := made(t, slice, maxSlice, first)
				spend(t, c, passed)
				now := c.Now()
				for _, n := range append(slices.Clone(tooLong), top-passed+1, top-now+1) {
					if n <= slice-passed {
						continue
					}
					is(t, "Spend", c.Spend(n), api.ErrSpent)
					stands(t, c, now, first, slice-passed)
				}
			}
		}
	}
}

func TestP5_3OfNone(t *testing.T) {
	var none *cycles.Counter
	zero := new(cycles.Counter)
	for _, n := range []uint64{0, 1, maxSlice, top} {
		is(t, "Spend of nil", none.Spend(n), api.ErrNil)
		is(t, "Spend of a zero counter", zero.Spend(n), api.ErrNil)
	}
	stands(t, zero, 0, 0, 0)
}

func TestP5_4Examples(t *testing.T) {
	c := made(t, 100, 10, 2)
	spend(t, c, 60)
	is(t, "Switch(11)", c.Switch(11), api.ErrSpent)
	stands(t, c, 280, 2, 40)
	is(t, "Switch(10)", c.Switch(10), api.OK)
	stands(t, c, 330, 3, 100)

	c = made(t, 4194304, 4194304, lastTick)
	is(t, "Switch(0)", c.Switch(0), api.OK)
	stands(t, c, 1<<63, maxTicks, 0)
	is(t, "Spend(0)", c.Spend(0), api.OK)
	is(t, "Spend(1)", c.Spend(1), api.ErrSpent)
	is(t, "Switch(0)", c.Switch(0), api.ErrHalt)
	stands(t, c, 1<<63, maxTicks, 0)
}

// Where the next slice begins hangs neither on what was spent nor on what was done in the pad.
func TestP5_4WhateverWasLeft(t *testing.T) {
	for _, slice := range lengths {
		for _, pad := range pads {
			for _, first := range numbers[:len(numbers)-1] {
				for _, passed := range []uint64{0, 1, slice / 2, slice} {
					for _, done := range []uint64{0, pad / 2, pad} {
						c := made(t, slice, pad, first)
						spend(t, c, passed)
						is(t, "Switch", c.Switch(done), api.OK)
						stands(t, c, exact(first+1, slice, pad).Uint64(), first+1, slice)
						spend(t, c, slice)
					}
				}
			}
		}
	}
}

func TestP5_4MoreThanThePad(t *testing.T) {
	for _, pad := range pads {
		c := made(t, 100, pad, 2)
		spend(t, c, 60)
		for _, done := range append([]uint64{pad + 1, pad + 2}, tooLong...) {
			is(t, "Switch", c.Switch(done), api.ErrSpent)
			stands(t, c, 2*(100+pad)+60, 2, 40)
		}
	}
}

func TestP5_4Halts(t *testing.T) {
	for _, slice := range lengths {
		for _, pad := range pads {
			c := made(t, slice, pad, lastTick-1)
			is(t, "Switch", c.Switch(pad), api.OK)
			is(t, "Switch past the pad", c.Switch(pad+1), api.ErrSpent)
			stands(t, c, exact(lastTick, slice, pad).Uint64(), lastTick, slice)
			spend(t, c, slice)
			is(t, "Switch of the last slice", c.Switch(pad), api.OK)
			end := exact(maxTicks, slice, pad).Uint64()
			stands(t, c, end, maxTicks, 0)
			for _, done := range append([]uint64{0, pad, pad + 1}, tooLong...) {
				is(t, "Switch behind the end", c.Switch(done), api.ErrHalt)
				is(t, "Spend(0) behind the end", c.Spend(0), api.OK)
				stands(t, c, end, maxTicks, 0)
			}
			for _, n := range append(slices.Clone(lengths), tooLong...) {
				is(t, "Spend behind the end", c.Spend(n), api.ErrSpent)
			}
			stands(t, c, end, maxTicks, 0)
		}
	}
}

func TestP5_4OfNone(t *testing.T) {
	var none *cycles.Counter
	zero := new(cycles.Counter)
	for _, done := range []uint64{0, 1, top} {
		is(t, "Switch of nil", none.Switch(done), api.ErrNil)
		is(t, "Switch of a zero counter", zero.Switch(done), api.ErrNil)
	}
	stands(t, zero, 0, 0, 0)
}

func TestP5_5BeginExamples(t *testing.T) {
	if at, e := cycles.Begin(maxTicks, 4194304, 4194304); at != 1<<63 || e != api.OK {
		t.Errorf("Begin(2^40, ..) = %d, %d", at, e)
	}
	if at, e := cycles.Begin(maxTicks+1, 1, 0); at != 0 || e != api.ErrHalt {
		t.Errorf("Begin(2^40 + 1, 1, 0) = %d, %d", at, e)
	}
}

func TestP5_5BeginIsExact(t *testing.T) {
	for _, k := range append([]uint64{maxTicks}, numbers...) {
		for _, slice := range lengths {
			for _, pad := range pads {
				at, e := cycles.Begin(k, slice, pad)
				if e != api.OK || exact(k, slice, pad).Cmp(new(big.Int).SetUint64(at)) != 0 {
					t.Fatalf("Begin(%d, %d, %d) = %d, %d", k, slice, pad, at, e)
				}
			}
		}
	}
}

func TestP5_5BeginRefuses(t *testing.T) {
	refused := func(k, slice, pad uint64, want api.Errno) {
		if at, e := cycles.Begin(k, slice, pad); at != 0 || e != want {
			t.Errorf("Begin(%d, %d, %d) = %d, %d, want %d", k, slice, pad, at, e, want)
		}
	}
	for _, bad := range tooLong {
		for _, k := range append([]uint64{maxTicks}, numbers...) {
			refused(k, 0, 0, api.ErrArg)
			refused(k, 0, bad, api.ErrArg)
			refused(k, bad, 0, api.ErrArg)
			refused(k, bad, bad, api.ErrArg)
			refused(k, bad, -bad, api.ErrArg)
			refused(k, 1, bad, api.ErrArg)
			refused(k, maxSlice, bad, api.ErrArg)
		}
		for _, k := range tooLate {
			refused(k, 1, 0, api.ErrHalt)
			refused(k, maxSlice, maxSlice, api.ErrHalt)
			refused(k, 0, bad, api.ErrHalt)
			refused(k, bad, 1, api.ErrHalt)
		}
	}
}

func TestP5_5TurnExamples(t *testing.T) {
	if p, e := cycles.Turn(5, []int{0, 2, 1}); p != 1 || e != api.OK {
		t.Errorf("Turn(5, (0, 2, 1)) = %d, %d", p, e)
	}
	if p, e := cycles.Turn(0, nil); p != 0 || e != api.ErrArg {
		t.Errorf("Turn(0, none) = %d, %d", p, e)
	}
	if p, e := cycles.Turn(0, []int{8}); p != 0 || e != api.ErrArg {
		t.Errorf("Turn(0, (8)) = %d, %d", p, e)
	}
}

// turnsOf is n turns in which a place and the one a step of 8 behind it are told apart by what stands around them.
func turnsOf(n int) []int {
	l := make([]int, n)
	for i := range l {
		l[i] = (i + i/api.MaxParts) % api.MaxParts
	}
	return l
}

func TestP5_5TurnsGoRound(t *testing.T) {
	for n := 1; n <= api.MaxTurns; n++ {
		turns := turnsOf(n)
		was := slices.Clone(turns)
		for k := uint64(0); k < uint64(2*n+1); k++ {
			if p, e := cycles.Turn(k, turns); p != turns[int(k)%n] || e != api.OK {
				t.Fatalf("Turn(%d) of %d turns = %d, %d", k, n, p, e)
			}
		}
		for _, k := range numbers {
			if p, e := cycles.Turn(k, turns); p != turns[k%uint64(n)] || e != api.OK {
				t.Fatalf("Turn(%d) of %d turns = %d, %d", k, n, p, e)
			}
		}
		if !slices.Equal(turns, was) {
			t.Fatalf("the turns have changed: %v", turns)
		}
	}
}

// Each turn must be a partition's, whichever one is asked for.
func TestP5_5TurnsThatMayNotBe(t *testing.T) {
	for _, n := range []int{1, 2, 63, 64} {
		for _, bad := range []int{-1, -8, api.MaxParts, api.MaxParts + 1, 1 << 32, math.MinInt, math.MaxInt} {
			for at := range n {
				turns := turnsOf(n)
				turns[at] = bad
				for _, k := range []uint64{0, uint64(at), uint64(at) + 1, lastTick} {
					if p, e := cycles.Turn(k, turns); p != 0 || e != api.ErrArg {
						t.Fatalf("Turn(%d) with %d at %d of %d = %d, %d", k, bad, at, n, p, e)
					}
				}
			}
		}
	}
	for _, k := range []uint64{0, 1, lastTick} {
		if p, e := cycles.Turn(k, []int{}); p != 0 || e != api.ErrArg {
			t.Errorf("Turn(%d, none) = %d, %d", k, p, e)
		}
	}
}

func TestP5_5TurnsTooMany(t *testing.T) {
	for _, n := range []int{65, 66, 128, 1 << 16} {
		turns := turnsOf(n)
		for _, k := range []uint64{0, 64, lastTick} {
			if p, e := cycles.Turn(k, turns); p != 0 || e != api.ErrMany {
				t.Errorf("Turn(%d) of %d turns = %d, %d", k, n, p, e)
			}
		}
		turns[0] = -1
		if p, e := cycles.Turn(0, turns); p != 0 || e != api.ErrMany {
			t.Errorf("Turn of %d turns, one of them wrong = %d, %d", n, p, e)
		}
	}
}

// Room behind the list is none of its turns.
func TestP5_5TurnsSpareRoom(t *testing.T) {
	all := append([]int{3, 4}, make([]int, 100)...)
	all[2] = -1
	if p, e := cycles.Turn(2, all[:2]); p != 3 || e != api.OK {
		t.Errorf("Turn = %d, %d", p, e)
	}
}

func TestP5_5TurnHalts(t *testing.T) {
	for _, k := range append([]uint64{maxTicks}, tooLate...) {
		for _, turns := range [][]int{nil, {}, {0}, {7}, {8}, {-1}, turnsOf(64), turnsOf(65)} {
			if p, e := cycles.Turn(k, turns); p != 0 || e != api.ErrHalt {
				t.Errorf("Turn(%d) of %d turns = %d, %d", k, len(turns), p, e)
			}
		}
	}
}

// diary tells where a counter stands by all that was done, in numbers that can't wrap.
type diary struct {
	slice, pad, number uint64
	spent              *big.Int
}

func (d *diary) now() *big.Int {
	return new(big.Int).Add(exact(d.number, d.slice, d.pad), d.spent)
}

func (d *diary) spend(n uint64) api.Errno {
	sum := new(big.Int).Add(d.spent, new(big.Int).SetUint64(n))
	room := new(big.Int)
	if d.number < maxTicks {
		room.SetUint64(d.slice)
	}
	if sum.Cmp(room) > 0 {
		return api.ErrSpent
	}
	d.spent = sum
	return api.OK
}

func (d *diary) tick(done uint64) api.Errno {
	switch {
	case d.number == maxTicks:
		return api.ErrHalt
	case done > d.pad:
		return api.ErrSpent
	}
	d.number++
	d.spent = new(big.Int)
	return api.OK
}

// one is a number that a call may be handed: mostly near what there is, now and then far off.
func (d *dice) one(near uint64) uint64 {
	switch d.below(8) {
	case 0:
		return tooLong[d.below(uint64(len(tooLong)))]
	case 1:
		return near + d.below(2)
	case 2:
		return 0
	}
	return d.below(near + 2)
}

// A run of calls of all kinds: the counter stands where the diary says, never falls, never passes 2^63, and begins each slice where Begin says.
func TestP5_6Runs(t *testing.T) {
	bound := new(big.Int).Lsh(big.NewInt(1), 63)
	d := dice(5)
	for run := range 400 {
		slice := lengths[d.below(uint64(len(lengths)))]
		pad := pads[d.below(uint64(len(pads)))]
		first := numbers[run%len(numbers)]
		c := made(t, slice, pad, first)
		w := &diary{slice, pad, first, new(big.Int)}
		for range 60 {
			was := c.Now()
			if d.below(3) > 0 {
				n := d.one(c.Left())
				is(t, "Spend", c.Spend(n), w.spend(n))
			} else if done := d.one(pad); w.tick(done) != c.Switch(done) {
				t.Fatalf("Switch(%d) with a pad of %d in the slice %d", done, pad, c.Number())
			}
			now := new(big.Int).SetUint64(c.Now())
			if c.Now() < was || now.Cmp(w.now()) != 0 || now.Cmp(bound) > 0 || c.Number() != w.number {
				t.Fatalf("at %d in the slice %d, was at %d; want %v in %d", c.Now(), c.Number(), was, w.now(), w.number)
			}
		}
	}
}

// Two counters with the same slices, one busy and one idle, begin each slice at the same cycle, which is Begin's.
func TestP5_6BeginsHangOnTheNumber(t *testing.T) {
	d := dice(6)
	for _, first := range numbers {
		busy, idle := made(t, 1000, 50, first), made(t, 1000, 50, first)
		for k := first; ; k++ {
			at, e := cycles.Begin(k, 1000, 50)
			if e != api.OK || busy.Now() != at || idle.Now() != at {
				t.Fatalf("the slice %d begins at %d and %d, Begin = %d, %d", k, busy.Now(), idle.Now(), at, e)
			}
			if k == maxTicks || k == first+20 {
				break
			}
			for range d.below(4) {
				busy.Spend(d.below(600))
			}
			is(t, "Switch", busy.Switch(d.below(51)), api.OK)
			is(t, "Switch", idle.Switch(0), api.OK)
		}
	}
}

// With no pad a slice's last cycle is the next one's first: the counter does not fall there.
func TestP5_6WithoutAPad(t *testing.T) {
	c := made(t, 7, 0, 4)
	spend(t, c, 7)
	stands(t, c, 35, 4, 0)
	is(t, "Switch", c.Switch(0), api.OK)
	stands(t, c, 35, 5, 7)
}
