package disk_test

import (
	"bytes"
	"math"
	"slices"
	"testing"

	"cofferdam/api"
	"cofferdam/disk"
)

const pageSize = api.PageSize

func made(t *testing.T, n int) *disk.Disk {
	t.Helper()
	d, e := disk.New(n)
	if d == nil || e != api.OK {
		t.Fatalf("New(%d) = %v, %d", n, d, e)
	}
	return d
}

// well fails the test if a call was refused.
func well(t *testing.T, e api.Errno) {
	t.Helper()
	if e != api.OK {
		t.Fatalf("refused: %d", e)
	}
}

// dice are numbers that look like chance, the same ones in each run.
type dice uint64

func (d *dice) word() uint64 {
	*d = *d*6364136223846793005 + 1442695040888963407
	return uint64(*d)
}

func (d *dice) below(n int) int { return int(d.word() >> 33 % uint64(n)) }

func (d *dice) page() []byte {
	b := make([]byte, pageSize)
	for i := range b {
		b[i] = byte(d.word() >> 40)
	}
	return b
}

// known is what a disk ought to hold: of each slot nil, or its page.
type known [][]byte

// hold fails the test unless the disk is as it is known, slot by slot.
func (k known) hold(t *testing.T, d *disk.Disk) {
	t.Helper()
	if d.Slots() != len(k) {
		t.Fatalf("Slots() = %d; want %d", d.Slots(), len(k))
	}
	var used []int
	for s, want := range k {
		b, e := d.Read(s)
		if want == nil {
			if b != nil || e != api.ErrSlot {
				t.Fatalf("Read(%d) = %v, %d; want nil, ErrSlot", s, b, e)
			}
			continue
		}
		used = append(used, s)
		if e != api.OK || !bytes.Equal(b, want) {
			t.Fatalf("Read(%d) = %v, %d; want %v", s, b, e, want)
		}
	}
	if l := d.Used(); !slices.Equal(l, used) {
		t.Fatalf("Used() = %v; want %v", l, used)
	}
}

// filled is a disk whose even slots are written and whose odd ones are empty, and what it holds.
func filled(t *testing.T, n int) (*disk.Disk, known) {
	t.Helper()
	d, chance, k := made(t, n), dice(n), make(known, n)
	for s := 0; s < n; s += 2 {
		k[s] = chance.page()
		well(t, d.Write(s, k[s]))
	}
	return d, k
}

// Slots that a disk of n slots has not.
func noSlots(n int) []int {
	return []int{n, n + 1, -1, -2, -n - 1, api.MaxSlots, api.MaxSlots + 1, 1 << 16, 1 << 31, 1 << 32, 1<<32 + 1, -1 << 32, 1 << 56, -1 << 56, math.MaxInt, math.MaxInt - 1, math.MinInt, math.MinInt + 1}
}

// Lengths that no page has.
var wrongLengths = []int{0, 1, 16, pageSize - 1, pageSize + 1, 2 * pageSize, 3 * pageSize, 1 << 16, 1<<16 + pageSize}

// Disks that New did not make.
func noDisks() []*disk.Disk { return []*disk.Disk{nil, {}, new(disk.Disk)} }

// Disks that are none

func TestP6_1NoDisk(t *testing.T) {
	for i, d := range noDisks() {
		if n := d.Slots(); n != 0 {
			t.Errorf("disk %d: Slots() = %d; want 0", i, n)
		}
	}
}

func TestP6_2NoDisk(t *testing.T) {
	slots := append(noSlots(0), 0, 1)
	for i, d := range noDisks() {
		for _, s := range slots {
			for _, n := range append(wrongLengths, pageSize) {
				if e := d.Write(s, make([]byte, n)); e != api.ErrNil {
					t.Errorf("disk %d: Write(%d, %d bytes) = %d; want ErrNil", i, s, n, e)
				}
			}
			if e := d.Write(s, nil); e != api.ErrNil {
				t.Errorf("disk %d: Write(%d, nil) = %d; want ErrNil", i, s, e)
			}
			if b, e := d.Read(s); b != nil || e != api.ErrNil {
				t.Errorf("disk %d: Read(%d) = %v, %d; want nil, ErrNil", i, s, b, e)
			}
			if e := d.Erase(s); e != api.ErrNil {
				t.Errorf("disk %d: Erase(%d) = %d; want ErrNil", i, s, e)
			}
		}
		if d.Slots() != 0 || len(d.Used()) != 0 {
			t.Errorf("disk %d has slots, behind what was refused", i)
		}
	}
}

func TestP6_3NoDisk(t *testing.T) {
	for i, d := range noDisks() {
		if l := d.Used(); len(l) != 0 {
			t.Errorf("disk %d: Used() = %v; want none", i, l)
		}
	}
}

// P6.1

func TestP6_1New(t *testing.T) {
	for _, n := range []int{0, 1, 2, 3, 63, 64, 65, 500, api.MaxSlots - 1, api.MaxSlots} {
		known(make([][]byte, n)).hold(t, made(t, n))
	}
}

func TestP6_1WrongNumbers(t *testing.T) {
	for _, n := range []int{-1, -2, -api.MaxSlots, api.MaxSlots + 1, api.MaxSlots + 2, 2 * api.MaxSlots, 1 << 31, 1 << 32, 1<<32 + 1, -1 << 32, 1 << 56, 1<<56 + 1, math.MaxInt, math.MinInt, math.MinInt + 1} {
		if d, e := disk.New(n); d != nil || e != api.ErrArg {
			t.Errorf("New(%d) = %v, %d; want nil, ErrArg", n, d, e)
		}
	}
}

func TestP6_1SlotsStayWhatTheyAre(t *testing.T) {
	for _, n := range []int{1, 2, 17, api.MaxSlots} {
		d := made(t, n)
		for s := range n {
			well(t, d.Write(s, make([]byte, pageSize)))
			if d.Slots() != n {
				t.Fatalf("New(%d).Slots() = %d behind Write(%d)", n, d.Slots(), s)
			}
		}
		for s := range n {
			well(t, d.Erase(s))
			if d.Slots() != n {
				t.Fatalf("New(%d).Slots() = %d behind Erase(%d)", n, d.Slots(), s)
			}
		}
	}
}

func TestP6_1WithoutSlots(t *testing.T) {
	d := made(t, 0)
	for _, s := range append(noSlots(0), 0) {
		if e := d.Write(s, make([]byte, pageSize)); e != api.ErrArg {
			t.Errorf("Write(%d) = %d; want ErrArg", s, e)
		}
		if b, e := d.Read(s); b != nil || e != api.ErrArg {
			t.Errorf("Read(%d) = %v, %d; want nil, ErrArg", s, b, e)
		}
		if e := d.Erase(s); e != api.ErrArg {
			t.Errorf("Erase(%d) = %d; want ErrArg", s, e)
		}
	}
	known{}.hold(t, d)
}

func TestP6_1DisksAreApart(t *testing.T) {
	a, k := filled(t, 5)
	b := made(t, 5)
	known(make([][]byte, 5)).hold(t, b)
	p := bytes.Repeat([]byte{7}, pageSize)
	well(t, b.Write(0, p))
	well(t, b.Write(1, p))
	well(t, b.Erase(0))
	k.hold(t, a)
	known{1: p, 4: nil}.hold(t, b)
}

// P6.2

func TestP6_2Examples(t *testing.T) {
	d, chance := made(t, 2), dice(1)
	a, b := chance.page(), chance.page()
	_, e0 := d.Read(0)
	_, e2 := d.Read(2)
	if e0 != api.ErrSlot || d.Erase(1) != api.ErrSlot || e2 != api.ErrArg || d.Write(-1, a) != api.ErrArg || d.Write(0, a[:255]) != api.ErrArg {
		t.Errorf("what is refused: %d, %d", e0, e2)
	}
	well(t, d.Write(1, a))
	known{nil, a}.hold(t, d)
	well(t, d.Write(1, b))
	known{nil, b}.hold(t, d)
	if x, y := d.Erase(1), d.Erase(1); x != api.OK || y != api.ErrSlot {
		t.Errorf("Erase, Erase: %d, %d; want OK, ErrSlot", x, y)
	}
	known{nil, nil}.hold(t, d)
}

func TestP6_2EachSlotOfTheGreatestDisk(t *testing.T) {
	const n = api.MaxSlots
	d, chance, k := made(t, n), dice(2), make(known, n)
	for s := range n {
		k[s] = chance.page()
		well(t, d.Write(s, k[s]))
	}
	k.hold(t, d)
	for s := n - 1; s >= 0; s -= 3 {
		k[s] = nil
		well(t, d.Erase(s))
	}
	k.hold(t, d)
	for s := range n {
		k[s] = nil
		if e := d.Erase(s); e != api.OK && e != api.ErrSlot {
			t.Fatalf("Erase(%d) = %d", s, e)
		}
	}
	k.hold(t, d)
}

func TestP6_2EachByte(t *testing.T) {
	d := made(t, 1)
	for i := range pageSize {
		for _, v := range []byte{1, 0x80, 0xff} {
			b := make([]byte, pageSize)
			b[i] = v
			well(t, d.Write(0, b))
			known{b}.hold(t, d)
		}
	}
}

func TestP6_2WhateverStoodThere(t *testing.T) {
	d, chance := made(t, 3), dice(4)
	for range 50 {
		b := chance.page()
		well(t, d.Write(1, b))
		known{1: b, 2: nil}.hold(t, d)
	}
}

// A page of noughts is a page: its slot is not empty.
func TestP6_2PageOfNoughts(t *testing.T) {
	d, b := made(t, 2), make([]byte, pageSize)
	well(t, d.Write(1, b))
	known{nil, b}.hold(t, d)
	well(t, d.Erase(1))
	known{nil, nil}.hold(t, d)
}

func TestP6_2ReadLeavesItThere(t *testing.T) {
	d, k := filled(t, 3)
	for range 3 {
		k.hold(t, d)
	}
}

// What was erased is gone: nothing of it is read behind a new page.
func TestP6_2ErasedAndWrittenAgain(t *testing.T) {
	d, chance := made(t, 2), dice(5)
	well(t, d.Write(0, chance.page()))
	well(t, d.Erase(0))
	b := chance.page()
	well(t, d.Write(0, b))
	known{b, nil}.hold(t, d)
	well(t, d.Erase(0))
	well(t, d.Write(0, make([]byte, pageSize)))
	known{make([]byte, pageSize), nil}.hold(t, d)
}

// The place of a page in the memory that is handed in, and the room behind it, do not matter.
func TestP6_2PieceOfASlice(t *testing.T) {
	chance := dice(6)
	all := append(append(chance.page(), chance.page()...), chance.page()...)
	d := made(t, 1)
	for from := 0; from+pageSize <= len(all); from += 17 {
		b := all[from : from+pageSize]
		well(t, d.Write(0, b))
		known{b}.hold(t, d)
	}
	if e := d.Write(0, all[:pageSize-1]); e != api.ErrArg {
		t.Errorf("Write of 255 bytes with room behind them = %d; want ErrArg", e)
	}
}

func TestP6_2WrongSlots(t *testing.T) {
	for _, n := range []int{1, 2, 5, 100, api.MaxSlots} {
		d, k := filled(t, n)
		for _, s := range noSlots(n) {
			if s >= 0 && s < n {
				continue
			}
			for _, length := range append(wrongLengths, pageSize) {
				if e := d.Write(s, make([]byte, length)); e != api.ErrArg {
					t.Errorf("%d slots: Write(%d, %d bytes) = %d; want ErrArg", n, s, length, e)
				}
			}
			if b, e := d.Read(s); b != nil || e != api.ErrArg {
				t.Errorf("%d slots: Read(%d) = %v, %d; want nil, ErrArg", n, s, b, e)
			}
			if e := d.Erase(s); e != api.ErrArg {
				t.Errorf("%d slots: Erase(%d) = %d; want ErrArg", n, s, e)
			}
		}
		k.hold(t, d)
	}
}

func TestP6_2WrongLengths(t *testing.T) {
	d, k := filled(t, 4)
	for s := range 4 {
		for _, n := range wrongLengths {
			if e := d.Write(s, bytes.Repeat([]byte{3}, n)); e != api.ErrArg {
				t.Errorf("Write(%d, %d bytes) = %d; want ErrArg", s, n, e)
			}
		}
		if e := d.Write(s, nil); e != api.ErrArg {
			t.Errorf("Write(%d, nil) = %d; want ErrArg", s, e)
		}
	}
	k.hold(t, d)
}

func TestP6_2EmptySlots(t *testing.T) {
	d, k := filled(t, 6)
	for s := 1; s < 6; s += 2 {
		if b, e := d.Read(s); b != nil || e != api.ErrSlot {
			t.Errorf("Read(%d) = %v, %d; want nil, ErrSlot", s, b, e)
		}
		if e := d.Erase(s); e != api.ErrSlot {
			t.Errorf("Erase(%d) = %d; want ErrSlot", s, e)
		}
	}
	k.hold(t, d)
}

// P6.3

func TestP6_3UsedRises(t *testing.T) {
	d, chance := made(t, api.MaxSlots), dice(7)
	var want []int
	for range 300 {
		s := chance.below(api.MaxSlots)
		well(t, d.Write(s, make([]byte, pageSize)))
		if !slices.Contains(want, s) {
			want = append(want, s)
		}
		slices.Sort(want)
		if l := d.Used(); !slices.Equal(l, want) {
			t.Fatalf("Used() = %v; want %v", l, want)
		}
	}
	for len(want) > 0 {
		i := chance.below(len(want))
		well(t, d.Erase(want[i]))
		want = slices.Delete(want, i, i+1)
		if l := d.Used(); !slices.Equal(l, want) {
			t.Fatalf("Used() = %v; want %v", l, want)
		}
	}
}

func TestP6_3TheEnds(t *testing.T) {
	d, b := made(t, api.MaxSlots), make([]byte, pageSize)
	for _, s := range []int{api.MaxSlots - 1, 0, 512} {
		well(t, d.Write(s, b))
	}
	if l := d.Used(); !slices.Equal(l, []int{0, 512, api.MaxSlots - 1}) {
		t.Errorf("Used() = %v", l)
	}
}

// P6.4

func TestP6_4WhatIsHandedInIsNotKept(t *testing.T) {
	d, chance := made(t, 2), dice(8)
	all := append(chance.page(), chance.page()...)
	before := slices.Clone(all)
	well(t, d.Write(0, all[:pageSize]))
	well(t, d.Write(1, all[:pageSize]))
	if !bytes.Equal(all, before) {
		t.Fatalf("Write changed what was handed in, or what lies behind it")
	}
	clear(all)
	known{before[:pageSize], before[:pageSize]}.hold(t, d)
	well(t, d.Erase(0))
	well(t, d.Write(1, bytes.Repeat([]byte{9}, pageSize)))
	if !bytes.Equal(all, make([]byte, len(all))) {
		t.Errorf("a page that was handed in was changed later on")
	}
}

func TestP6_4PageIsNewMemory(t *testing.T) {
	d, k := filled(t, 3)
	a, _ := d.Read(0)
	b, _ := d.Read(0)
	for i := range a {
		a[i]++
	}
	if !bytes.Equal(b, k[0]) {
		t.Errorf("two answers of Read share memory")
	}
	_ = append(b[:0], make([]byte, cap(b))...)
	k.hold(t, d)
	c, _ := d.Read(2)
	well(t, d.Write(2, make([]byte, pageSize)))
	well(t, d.Erase(2))
	if !bytes.Equal(c, k[2]) {
		t.Errorf("a page that was answered was changed later on")
	}
}

func TestP6_4UsedIsNewMemory(t *testing.T) {
	d, k := filled(t, 9)
	a, b := d.Used(), d.Used()
	for i := range a {
		a[i] = -1
	}
	_ = append(a, 77)
	if !slices.Equal(b, []int{0, 2, 4, 6, 8}) {
		t.Errorf("two answers of Used share memory: %v", b)
	}
	k.hold(t, d)
	well(t, d.Write(1, k[0]))
	well(t, d.Erase(8))
	if !slices.Equal(b, []int{0, 2, 4, 6, 8}) {
		t.Errorf("a list that was answered was changed later on: %v", b)
	}
}

// P6.5

// wrong asks for something that is refused, and fails the test if it is not.
func wrong(t *testing.T, d *disk.Disk, k known, chance *dice) {
	t.Helper()
	n := len(k)
	no, e := []int{-1, n, n + 1 + chance.below(1000), -1 - chance.below(1000)}[chance.below(4)], api.OK
	switch chance.below(4) {
	case 0:
		e = d.Write(no, chance.page())
	case 1:
		e = d.Write(chance.below(n), chance.page()[:chance.below(pageSize)])
	case 2:
		_, e = d.Read(no)
	default:
		e = d.Erase(no)
	}
	if e != api.ErrArg {
		t.Fatalf("what may not be = %d; want ErrArg", e)
	}
}

// erase erases a slot, and fails the test unless it is told rightly whether a page stood there.
func erase(t *testing.T, d *disk.Disk, k known, s int) {
	t.Helper()
	want := api.OK
	if k[s] == nil {
		want = api.ErrSlot
	}
	if e := d.Erase(s); e != want {
		t.Fatalf("Erase(%d) = %d; want %d", s, e, want)
	}
	k[s] = nil
}

func TestP6_5RunsOfCalls(t *testing.T) {
	for seed, n := range []int{1, 2, 3, 8, 40, 200} {
		d, chance, k := made(t, n), dice(seed+90), make(known, n)
		for step := range 1500 {
			s := chance.below(n)
			switch chance.below(6) {
			case 0, 1, 2:
				k[s] = chance.page()
				well(t, d.Write(s, k[s]))
			case 3, 4:
				erase(t, d, k, s)
			default:
				wrong(t, d, k, &chance)
			}
			if n <= 8 || step%50 == 0 {
				k.hold(t, d)
			}
		}
		k.hold(t, d)
	}
}

// A slot keeps its page whatever is done to each one of the others.
func TestP6_5TheOthersDoNotMatter(t *testing.T) {
	const n = 64
	chance := dice(95)
	for s := range n {
		d, b := made(t, n), chance.page()
		well(t, d.Write(s, b))
		for other := range n {
			if other == s {
				continue
			}
			well(t, d.Write(other, chance.page()))
			well(t, d.Write(other, chance.page()))
			if other%2 == 0 {
				well(t, d.Erase(other))
			}
			if p, e := d.Read(s); e != api.OK || !bytes.Equal(p, b) {
				t.Fatalf("Read(%d) = %v, %d behind what was done to %d", s, p, e, other)
			}
		}
	}
}
