package frames_test

import (
	"bytes"
	"math"
	"slices"
	"testing"

	"cofferdam/api"
	"cofferdam/frames"
)

const pageSize = api.PageSize

func made(t *testing.T, n int) *frames.Memory {
	t.Helper()
	m, e := frames.New(n)
	if m == nil || e != api.OK {
		t.Fatalf("New(%d) = %v, %d", n, m, e)
	}
	return m
}

// well fails the test if a call was refused.
func well(t *testing.T, e api.Errno) {
	t.Helper()
	if e != api.OK {
		t.Fatalf("refused: %d", e)
	}
}

// whole is all bytes of a memory, told one by one.
func whole(t *testing.T, m *frames.Memory) []byte {
	t.Helper()
	l := make([]byte, m.Frames()*pageSize)
	for pa := range l {
		b, e := m.Byte(uint64(pa))
		well(t, e)
		l[pa] = b
	}
	return l
}

// dice are numbers that look like chance, the same ones in each run.
type dice uint64

func (d *dice) word() uint64 {
	*d = *d*6364136223846793005 + 1442695040888963407
	return uint64(*d)
}

func (d *dice) below(n int) int { return int(d.word() >> 33 % uint64(n)) }

func (d *dice) page() []byte {
	b := make([]byte, pageSize)
	for i := range b {
		b[i] = byte(d.word() >> 40)
	}
	return b
}

// filled is a memory in which all bytes were written, and these bytes.
func filled(t *testing.T, n int) (*frames.Memory, []byte) {
	t.Helper()
	m, d := made(t, n), dice(n)
	var all []byte
	for i := range n {
		b := d.page()
		well(t, m.Put(i, b))
		all = append(all, b...)
	}
	return m, all
}

// number is the bytes as a number, the lowest first, by multiplying.
func number(l []byte) uint64 {
	var v uint64
	for i := len(l) - 1; i >= 0; i-- {
		v = v*256 + uint64(l[i])
	}
	return v
}

// Frames that a memory of n frames has not.
func noFrames(n int) []int {
	return []int{n, n + 1, -1, -n, api.MaxFrames, api.MaxFrames + 1, 1 << 24, 1 << 32, 1<<32 + 1, 1 << 56, -1 << 56, 1<<56 + 1, math.MaxInt, math.MinInt, math.MinInt + 1}
}

// Addresses that a memory of n frames has not.
func noAddrs(n int) []uint64 {
	end := uint64(n * pageSize)
	return []uint64{end, end + 1, end + 255, 1 << 20, 1 << 32, 1<<32 + 1, 1 << 63, math.MaxUint64 - 7, math.MaxUint64 - 1, math.MaxUint64}
}

var wrongSizes = []int{0, -1, 9, 10, 256, 1 << 32, 1<<32 + 1, math.MaxInt, math.MinInt, math.MinInt + 1}

// P2.1

func TestP2_1New(t *testing.T) {
	for _, n := range []int{1, 2, 3, 64, api.MaxFrames - 1, api.MaxFrames} {
		m := made(t, n)
		if m.Frames() != n {
			t.Errorf("New(%d).Frames() = %d", n, m.Frames())
		}
		if l := whole(t, m); slices.ContainsFunc(l, func(b byte) bool { return b != 0 }) {
			t.Errorf("New(%d): not all bytes are 0", n)
		}
	}
}

func TestP2_1WrongNumbers(t *testing.T) {
	for _, n := range []int{0, -1, api.MaxFrames + 1, 1 << 32, 1<<32 + 1, 1 << 56, 1<<56 + 1, math.MaxInt, math.MinInt} {
		if m, e := frames.New(n); m != nil || e != api.ErrArg {
			t.Errorf("New(%d) = %v, %d; want nil, ErrArg", n, m, e)
		}
	}
}

func TestP2_1FramesStayWhatTheyAre(t *testing.T) {
	m, _ := filled(t, 3)
	m.Put(3, make([]byte, pageSize))
	m.Zero(0)
	if m.Frames() != 3 {
		t.Errorf("%d frames; want 3", m.Frames())
	}
}

// A memory that is none: ErrNil stands ahead of all other errors.
func TestP2_1None(t *testing.T) {
	for _, m := range []*frames.Memory{nil, {}, new(frames.Memory)} {
		if n := m.Frames(); n != 0 {
			t.Errorf("Frames() = %d", n)
		}
		for _, pa := range append(noAddrs(2), 0, 1) {
			if b, e := m.Byte(pa); b != 0 || e != api.ErrNil {
				t.Errorf("Byte(%d) = %d, %d", pa, b, e)
			}
			if e := m.SetByte(pa, 1); e != api.ErrNil {
				t.Errorf("SetByte(%d): %d", pa, e)
			}
			for _, size := range append(wrongSizes, 1, 8) {
				if v, e := m.Load(pa, size); v != 0 || e != api.ErrNil {
					t.Errorf("Load(%d, %d) = %d, %d", pa, size, v, e)
				}
				if e := m.Store(pa, size, 1); e != api.ErrNil {
					t.Errorf("Store(%d, %d): %d", pa, size, e)
				}
			}
		}
		for _, frame := range append(noFrames(2), 0, 1) {
			page, e := m.Page(frame)
			if page != nil || e != api.ErrNil {
				t.Errorf("Page(%d) = %v, %d", frame, page, e)
			}
			for i, e := range []api.Errno{m.Zero(frame), m.Copy(frame, 0), m.Copy(0, frame), m.Put(frame, nil), m.Put(frame, make([]byte, pageSize))} {
				if e != api.ErrNil {
					t.Errorf("call %d of frame %d: %d", i, frame, e)
				}
			}
		}
	}
}

// P2.2

func TestP2_2Bytes(t *testing.T) {
	m := made(t, 2)
	for _, pa := range []uint64{0, 1, 255, 256, 510, 511} {
		if b, e := m.Byte(pa); b != 0 || e != api.OK {
			t.Errorf("Byte(%d) = %d, %d; want 0", pa, b, e)
		}
		for _, b := range []byte{1, 0x80, 255, 0, 77} {
			well(t, m.SetByte(pa, b))
			if got, e := m.Byte(pa); got != b || e != api.OK {
				t.Errorf("Byte(%d) = %d, %d; want %d", pa, got, e, b)
			}
		}
	}
}

func TestP2_2OneByteIsOne(t *testing.T) {
	m, all := filled(t, 3)
	for _, pa := range []int{0, 255, 256, 300, 767} {
		all[pa] ^= 0x5a
		well(t, m.SetByte(uint64(pa), all[pa]))
		if !bytes.Equal(whole(t, m), all) {
			t.Fatalf("SetByte(%d) changed another byte, or not this one", pa)
		}
	}
}

func TestP2_2NotThere(t *testing.T) {
	for _, n := range []int{1, 2, 7, api.MaxFrames} {
		m := made(t, n)
		for _, pa := range noAddrs(n) {
			if b, e := m.Byte(pa); b != 0 || e != api.ErrAddr {
				t.Errorf("of %d frames: Byte(%d) = %d, %d; want ErrAddr", n, pa, b, e)
			}
			if e := m.SetByte(pa, 1); e != api.ErrAddr {
				t.Errorf("of %d frames: SetByte(%d): %d; want ErrAddr", n, pa, e)
			}
		}
		last := uint64(n*pageSize - 1)
		well(t, m.SetByte(last, 9))
		if b, e := m.Byte(last); b != 9 || e != api.OK {
			t.Errorf("of %d frames: Byte(%d) = %d, %d; want 9", n, last, b, e)
		}
	}
}

// P2.3

func TestP2_3Examples(t *testing.T) {
	m := made(t, 2)
	well(t, m.Store(254, 4, 0x11223344))
	for _, c := range []struct {
		pa   uint64
		size int
		v    uint64
		e    api.Errno
	}{
		{254, 4, 0x11223344, api.OK},
		{254, 1, 0x44, api.OK},
		{257, 1, 0x11, api.OK},
		{255, 2, 0x2233, api.OK},
		{253, 8, 0x1122334400, api.OK},
		{509, 3, 0, api.OK},
		{509, 4, 0, api.ErrAddr},
		{0, 0, 0, api.ErrArg},
		{0, 9, 0, api.ErrArg},
		{512, 0, 0, api.ErrAddr},
	} {
		if v, e := m.Load(c.pa, c.size); v != c.v || e != c.e {
			t.Errorf("Load(%d, %d) = %#x, %d; want %#x, %d", c.pa, c.size, v, e, c.v, c.e)
		}
	}
	for pa, want := range map[uint64]byte{253: 0, 254: 0x44, 255: 0x33, 256: 0x22, 257: 0x11, 258: 0} {
		if b, e := m.Byte(pa); b != want || e != api.OK {
			t.Errorf("Byte(%d) = %#x, %d; want %#x", pa, b, e, want)
		}
	}
}

// Each size at each address, the end's among them: what is there is told as the bytes are, what is not there is refused.
func TestP2_3LoadEverywhere(t *testing.T) {
	m, all := filled(t, 3)
	for pa := range all {
		for size := 1; size <= api.MaxSize; size++ {
			v, e := m.Load(uint64(pa), size)
			if pa+size > len(all) {
				if v != 0 || e != api.ErrAddr {
					t.Errorf("Load(%d, %d) = %#x, %d; want ErrAddr", pa, size, v, e)
				}
			} else if want := number(all[pa : pa+size]); v != want || e != api.OK {
				t.Errorf("Load(%d, %d) = %#x, %d; want %#x", pa, size, v, e, want)
			}
		}
	}
}

func TestP2_3StoreEverywhere(t *testing.T) {
	m, all := filled(t, 2)
	d := dice(5)
	for pa := range all {
		for size := 1; size <= api.MaxSize; size++ {
			v := d.word()
			e := m.Store(uint64(pa), size, v)
			if pa+size > len(all) {
				if e != api.ErrAddr {
					t.Errorf("Store(%d, %d): %d; want ErrAddr", pa, size, e)
				}
			} else {
				well(t, e)
				for i := range size {
					all[pa+i] = byte(v % 256)
					v /= 256
				}
			}
		}
		if !bytes.Equal(whole(t, m), all) {
			t.Fatalf("the stores at %d wrote other bytes, or elsewhere", pa)
		}
	}
}

func TestP2_3Refused(t *testing.T) {
	for _, n := range []int{1, 2, api.MaxFrames} {
		m := made(t, n)
		last := uint64(n*pageSize - 1)
		refused := func(pa uint64, size int, want api.Errno) {
			if v, e := m.Load(pa, size); v != 0 || e != want {
				t.Errorf("of %d frames: Load(%d, %d) = %d, %d; want %d", n, pa, size, v, e, want)
			}
			if e := m.Store(pa, size, math.MaxUint64); e != want {
				t.Errorf("of %d frames: Store(%d, %d): %d; want %d", n, pa, size, e, want)
			}
		}
		for _, pa := range noAddrs(n) {
			for _, size := range append(wrongSizes, 1, 8) {
				refused(pa, size, api.ErrAddr)
			}
		}
		for _, size := range wrongSizes {
			refused(0, size, api.ErrArg)
			refused(last, size, api.ErrArg)
		}
		for size := 2; size <= api.MaxSize; size++ {
			refused(last, size, api.ErrAddr)
			refused(last+2-uint64(size), size, api.ErrAddr)
		}
		if l := whole(t, m); slices.ContainsFunc(l, func(b byte) bool { return b != 0 }) {
			t.Errorf("of %d frames: a store that was refused wrote", n)
		}
	}
}

// P2.4

func TestP2_4Zero(t *testing.T) {
	const n = 5
	for frame := range n {
		m, all := filled(t, n)
		well(t, m.Zero(frame))
		clear(all[frame*pageSize : (frame+1)*pageSize])
		if !bytes.Equal(whole(t, m), all) {
			t.Errorf("Zero(%d): not its bytes, or not its bytes alone", frame)
		}
	}
}

func TestP2_4Copy(t *testing.T) {
	const n = 4
	for to := range n {
		for from := range n {
			m, all := filled(t, n)
			well(t, m.Copy(to, from))
			copy(all[to*pageSize:(to+1)*pageSize], all[from*pageSize:(from+1)*pageSize])
			if !bytes.Equal(whole(t, m), all) {
				t.Errorf("Copy(%d, %d): not its bytes, or not its bytes alone", to, from)
			}
		}
	}
}

func TestP2_4Examples(t *testing.T) {
	m := made(t, 2)
	well(t, m.Store(254, 4, 0x11223344))
	well(t, m.Copy(0, 1))
	a, _ := m.Byte(0)
	b, _ := m.Byte(254)
	if a != 0x22 || b != 0 {
		t.Errorf("behind Copy(0, 1): %#x, %#x; want 0x22, 0", a, b)
	}
	well(t, m.Zero(1))
	if c, _ := m.Byte(256); c != 0 {
		t.Errorf("behind Zero(1): %#x", c)
	}
	if a, b := m.Zero(2), m.Copy(0, 2); a != api.ErrArg || b != api.ErrArg {
		t.Errorf("%d, %d; want ErrArg twice", a, b)
	}
}

func TestP2_4NoSuchFrame(t *testing.T) {
	for _, n := range []int{1, 2, 5} {
		m, all := filled(t, n)
		for _, frame := range noFrames(n) {
			for i, e := range []api.Errno{m.Zero(frame), m.Copy(frame, 0), m.Copy(0, frame), m.Copy(frame, n-1), m.Copy(n-1, frame), m.Copy(frame, frame)} {
				if e != api.ErrArg {
					t.Errorf("of %d frames: call %d of frame %d: %d; want ErrArg", n, i, frame, e)
				}
			}
		}
		if !bytes.Equal(whole(t, m), all) {
			t.Errorf("of %d frames: a call that was refused wrote", n)
		}
	}
}

// The last frame that any memory may have is there; the one behind it never is.
func TestP2_4LastFrame(t *testing.T) {
	m := made(t, api.MaxFrames)
	last := api.MaxFrames - 1
	well(t, m.SetByte(1<<20-1, 3))
	well(t, m.Copy(0, last))
	well(t, m.Zero(last))
	a, _ := m.Byte(255)
	b, _ := m.Byte(1<<20 - 1)
	if a != 3 || b != 0 {
		t.Errorf("%d, %d; want 3, 0", a, b)
	}
	if e := m.Zero(api.MaxFrames); e != api.ErrArg {
		t.Errorf("Zero(4096): %d", e)
	}
}

// P2.5

func TestP2_5PageAndPut(t *testing.T) {
	const n = 3
	d := dice(11)
	m, all := filled(t, n)
	for frame := range n {
		p, e := m.Page(frame)
		if e != api.OK || !bytes.Equal(p, all[frame*pageSize:(frame+1)*pageSize]) {
			t.Errorf("Page(%d) = %v, %d", frame, p, e)
		}
	}
	for frame := range n {
		b := d.page()
		well(t, m.Put(frame, b))
		copy(all[frame*pageSize:], b)
		if !bytes.Equal(whole(t, m), all) {
			t.Errorf("Put(%d): not its bytes, or not its bytes alone", frame)
		}
		if p, e := m.Page(frame); e != api.OK || !bytes.Equal(p, b) {
			t.Errorf("Page(%d) behind Put: %v, %d", frame, p, e)
		}
	}
	if p, e := made(t, 1).Page(0); e != api.OK || !bytes.Equal(p, make([]byte, pageSize)) {
		t.Errorf("a page of a new memory: %v, %d", p, e)
	}
}

func TestP2_5Refused(t *testing.T) {
	const n = 2
	m, all := filled(t, n)
	for _, frame := range noFrames(n) {
		if p, e := m.Page(frame); p != nil || e != api.ErrArg {
			t.Errorf("Page(%d) = %v, %d; want ErrArg", frame, p, e)
		}
		for _, size := range []int{0, 255, 256, 257} {
			if e := m.Put(frame, make([]byte, size)); e != api.ErrArg {
				t.Errorf("Put(%d, %d bytes): %d; want ErrArg", frame, size, e)
			}
		}
	}
	for _, size := range []int{0, 1, 255, 257, 511, 512, 1 << 16} {
		if e := m.Put(1, make([]byte, size)); e != api.ErrArg {
			t.Errorf("Put(1, %d bytes): %d; want ErrArg", size, e)
		}
	}
	for _, b := range [][]byte{nil, make([]byte, 0, 256), make([]byte, 255, 256)} {
		if e := m.Put(0, b); e != api.ErrArg {
			t.Errorf("Put(0, %d bytes): %d; want ErrArg", len(b), e)
		}
	}
	if !bytes.Equal(whole(t, m), all) {
		t.Errorf("a call that was refused wrote")
	}
}

// P2.6

func TestP2_6WhatIsHandedIn(t *testing.T) {
	m := made(t, 2)
	d := dice(3)
	room := append(d.page(), d.page()...)
	before := slices.Clone(room)
	b := room[:pageSize]
	well(t, m.Put(0, b))
	well(t, m.Put(1, b))
	for pa := range uint64(2 * pageSize) {
		well(t, m.SetByte(pa, ^b[pa%pageSize]))
	}
	if !bytes.Equal(room, before) {
		t.Errorf("what was handed in, or its spare room, was changed")
	}
	well(t, m.Put(0, b))
	clear(room)
	if p, _ := m.Page(0); !bytes.Equal(p, before[:pageSize]) {
		t.Errorf("what was handed in is kept")
	}
}

func TestP2_6WhatIsAnswered(t *testing.T) {
	m, all := filled(t, 2)
	p, _ := m.Page(0)
	q, _ := m.Page(0)
	r, _ := m.Page(1)
	kept := slices.Clone(r)
	for _, l := range [][]byte{p, q} {
		clear(l[:cap(l)])
		_ = append(l, 1, 2, 3)
	}
	if !bytes.Equal(r, kept) || !bytes.Equal(whole(t, m), all) {
		t.Errorf("a page that was told is another one's, or the memory's")
	}
	p, _ = m.Page(0)
	clear(p)
	if q, _ = m.Page(0); !bytes.Equal(q, all[:pageSize]) {
		t.Errorf("two pages that were told share their bytes")
	}
	well(t, m.Zero(1))
	if !bytes.Equal(r, kept) {
		t.Errorf("a page that was told changes with the memory")
	}
}

func TestP2_6TwoMemories(t *testing.T) {
	m, all := filled(t, 2)
	n := made(t, 2)
	for pa := range uint64(2 * pageSize) {
		well(t, n.SetByte(pa, 1))
	}
	well(t, n.Copy(0, 1))
	well(t, n.Zero(1))
	if !bytes.Equal(whole(t, m), all) {
		t.Errorf("two memories share bytes")
	}
}

// P2.7

func TestP2_7LoadBehindStore(t *testing.T) {
	m := made(t, 2)
	d := dice(17)
	for range 5000 {
		size := 1 + d.below(api.MaxSize)
		pa := uint64(d.below(2*pageSize - size + 1))
		v := d.word()
		well(t, m.Store(pa, size, v))
		want := v
		if size < 8 {
			want %= 1 << (8 * size)
		}
		if got, e := m.Load(pa, size); got != want || e != api.OK {
			t.Errorf("Load(%d, %d) = %#x, %d; want %#x", pa, size, got, e, want)
		}
	}
}

func TestP2_7Pieces(t *testing.T) {
	m, _ := filled(t, 2)
	n, _ := filled(t, 2)
	d := dice(23)
	for pa := uint64(240); pa <= 264; pa++ {
		for size := 2; size <= api.MaxSize; size++ {
			for cut := 1; cut < size; cut++ {
				v := d.word()
				well(t, m.Store(pa, size, v))
				well(t, n.Store(pa, cut, v))
				well(t, n.Store(pa+uint64(cut), size-cut, v>>(8*cut)))
				low, _ := m.Load(pa, cut)
				high, _ := m.Load(pa+uint64(cut), size-cut)
				if got, e := m.Load(pa, size); got != high<<(8*cut)|low || e != api.OK {
					t.Errorf("Load(%d, %d) cut at %d: %#x, %#x, %#x", pa, size, cut, got, low, high)
				}
			}
		}
		if !bytes.Equal(whole(t, m), whole(t, n)) {
			t.Fatalf("stores at %d, and those of their pieces, are not alike", pa)
		}
	}
}

func TestP2_7BehindCopyEachForItself(t *testing.T) {
	m, all := filled(t, 3)
	well(t, m.Copy(2, 0))
	p, _ := m.Page(0)
	q, _ := m.Page(2)
	if !bytes.Equal(p, q) || !bytes.Equal(p, all[:pageSize]) {
		t.Fatalf("behind Copy the frames are not alike")
	}
	well(t, m.SetByte(7, ^p[7]))
	if r, _ := m.Page(2); !bytes.Equal(r, q) {
		t.Errorf("what is written to the one touches the copy")
	}
	p, _ = m.Page(0)
	well(t, m.Store(520, 8, ^number(q[8:16])))
	if r, _ := m.Page(0); !bytes.Equal(r, p) {
		t.Errorf("what is written to the copy touches the first one")
	}
}

// Calls of all kinds, held against a plain list of bytes: each byte is what was written there last.
func TestP2_7WrittenLast(t *testing.T) {
	for n := 1; n <= 4; n++ {
		m, d := made(t, n), dice(n)
		all := make([]byte, n*pageSize)
		frame := func(i int) []byte { return all[i*pageSize : (i+1)*pageSize] }
		for turn := range 4000 {
			i, j, pa, v := d.below(n), d.below(n), d.below(len(all)), d.word()
			switch d.below(7) {
			case 0:
				well(t, m.SetByte(uint64(pa), byte(v)))
				all[pa] = byte(v)
			case 1, 2, 3:
				size := 1 + d.below(api.MaxSize)
				if m.Store(uint64(pa), size, v) == api.OK {
					for k := range size {
						all[pa+k] = byte(v >> (8 * k))
					}
				} else if pa+size <= len(all) {
					t.Fatalf("Store(%d, %d) was refused", pa, size)
				}
			case 4:
				well(t, m.Zero(i))
				clear(frame(i))
			case 5:
				well(t, m.Copy(i, j))
				copy(frame(i), frame(j))
			case 6:
				b := d.page()
				well(t, m.Put(i, b))
				copy(frame(i), b)
			}
			p, e := m.Page(j)
			if e != api.OK || !bytes.Equal(p, frame(j)) {
				t.Fatalf("turn %d, of %d frames: frame %d is not what was written last", turn, n, j)
			}
		}
		if !bytes.Equal(whole(t, m), all) {
			t.Errorf("of %d frames: not what was written last", n)
		}
	}
}
