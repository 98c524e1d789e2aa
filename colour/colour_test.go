package colour_test

import (
	"math"
	"slices"
	"testing"

	"cofferdam/api"
	"cofferdam/colour"
)

// wrong are numbers that are no count and no number of anything below limit; some of them wrap round to small ones, if they are multiplied by 2 to 16.
func wrong(limit int) []int {
	l := []int{-1, -2, -16, -4096, limit, limit + 1, limit + 16, 2 * limit, 1 << 31, 1 << 32, 1<<32 + 1}
	for shift := 58; shift < 63; shift++ {
		l = append(l, 1<<shift, 1<<shift+1, -1<<shift, -1<<shift+1)
	}
	return append(l, math.MaxInt, math.MaxInt-1, math.MinInt, math.MinInt+1)
}

// wrongCounts are numbers of which it may not be said that there are so many.
func wrongCounts(limit int) []int { return append(wrong(limit+1), 0) }

// each calls f with each number of colours that may be, and with each frame.
func each(f func(frame, colours int)) {
	for colours := 1; colours <= 16; colours++ {
		for frame := range 4096 {
			f(frame, colours)
		}
	}
}

// dealt is of each frame its colour and its index, reckoned as cards are dealt: one to each colour, again and again.
func dealt(colours int) (of, index [4096]int) {
	c, i := 0, 0
	for frame := range of {
		of[frame], index[frame] = c, i
		if c++; c == colours {
			c, i = 0, i+1
		}
	}
	return of, index
}

// answer fails the test unless a call answered what is wanted.
func answer(t *testing.T, call string, args []int, got int, e api.Errno, want int) {
	t.Helper()
	if got != want || e != api.OK {
		t.Fatalf("%s%v = %d, %d; want %d, OK", call, args, got, e, want)
	}
}

// refused fails the test unless a call answered ErrArg and nothing else.
func refused(t *testing.T, call string, args []int, got int, e api.Errno) {
	t.Helper()
	if got != 0 || e != api.ErrArg {
		t.Fatalf("%s%v = %d, %d; want 0, ErrArg", call, args, got, e)
	}
}

// P8.1

func TestP8_1Examples(t *testing.T) {
	n, e := colour.Of(10, 4)
	answer(t, "Of", []int{10, 4}, n, e, 2)
	n, e = colour.Index(10, 4)
	answer(t, "Index", []int{10, 4}, n, e, 2)
	n, e = colour.Frame(2, 2, 4)
	answer(t, "Frame", []int{2, 2, 4}, n, e, 10)
	n, e = colour.Frame(3, 1023, 4)
	answer(t, "Frame", []int{3, 1023, 4}, n, e, 4095)
	for _, x := range [][]int{{10, 17}, {-1, 4}, {4096, 4}} {
		n, e = colour.Of(x[0], x[1])
		refused(t, "Of", x, n, e)
	}
	for _, x := range [][]int{{3, 1024, 4}, {4, 0, 4}, {0, -1, 4}} {
		n, e = colour.Frame(x[0], x[1], x[2])
		refused(t, "Frame", x, n, e)
	}
}

func TestP8_1EachFrame(t *testing.T) {
	for colours := 1; colours <= 16; colours++ {
		of, index := dealt(colours)
		for frame := range 4096 {
			x := []int{frame, colours}
			n, e := colour.Of(frame, colours)
			answer(t, "Of", x, n, e, of[frame])
			n, e = colour.Index(frame, colours)
			answer(t, "Index", x, n, e, index[frame])
		}
	}
}

func TestP8_1EachColourAndIndex(t *testing.T) {
	type place struct{ colour, index int }
	for colours := 1; colours <= 16; colours++ {
		of, index := dealt(colours)
		frames := map[place]int{}
		for frame := range 4096 {
			frames[place{of[frame], index[frame]}] = frame
		}
		for c := range colours {
			for i := range 4096 + 16 {
				n, e := colour.Frame(c, i, colours)
				if frame, is := frames[place{c, i}]; is {
					answer(t, "Frame", []int{c, i, colours}, n, e, frame)
				} else {
					refused(t, "Frame", []int{c, i, colours}, n, e)
				}
			}
		}
	}
}

func TestP8_1WrongFramesAndColours(t *testing.T) {
	both := func(frame, colours int) {
		t.Helper()
		n, e := colour.Of(frame, colours)
		refused(t, "Of", []int{frame, colours}, n, e)
		n, e = colour.Index(frame, colours)
		refused(t, "Index", []int{frame, colours}, n, e)
	}
	for _, colours := range wrongCounts(16) {
		for _, frame := range []int{0, 1, 10, 4095} {
			both(frame, colours)
		}
		for _, frame := range wrong(4096) {
			both(frame, colours)
		}
	}
	for _, frame := range wrong(4096) {
		for colours := 1; colours <= 16; colours++ {
			both(frame, colours)
		}
	}
}

func TestP8_1WrongPlaces(t *testing.T) {
	no := func(c, index, colours int) {
		t.Helper()
		n, e := colour.Frame(c, index, colours)
		refused(t, "Frame", []int{c, index, colours}, n, e)
	}
	for colours := 1; colours <= 16; colours++ {
		for _, c := range wrong(colours) {
			no(c, 0, colours)
			no(c, 1, colours)
			no(c, -1, colours)
		}
		for _, index := range wrong(4096) {
			no(0, index, colours)
			no(colours-1, index, colours)
			no(colours, index, colours)
		}
	}
	for _, colours := range wrongCounts(16) {
		for _, c := range []int{0, 1, 15, -1, math.MaxInt, math.MinInt} {
			no(c, 0, colours)
			no(c, 1, colours)
			no(c, math.MaxInt, colours)
		}
	}
}

// The last index differs from colour to colour, where the colours do not share the frames evenly.
func TestP8_1LastIndexes(t *testing.T) {
	for _, x := range [][]int{{0, 4095, 1, 4095}, {0, 1365, 3, 4095}, {1, 1364, 3, 4093}, {2, 1364, 3, 4094}, {0, 819, 5, 4095}, {4, 818, 5, 4094}, {15, 255, 16, 4095}} {
		c, index, colours := x[0], x[1], x[2]
		n, e := colour.Frame(c, index, colours)
		answer(t, "Frame", x[:3], n, e, x[3])
		n, e = colour.Frame(c, index+1, colours)
		refused(t, "Frame", []int{c, index + 1, colours}, n, e)
	}
}

// P8.2

func TestP8_2Examples(t *testing.T) {
	for _, x := range [][]int{{10, 4, 1, 3}, {10, 4, 2, 2}, {3, 4, 3, 0}} {
		n, e := colour.Count(x[0], x[1], x[2])
		answer(t, "Count", x[:3], n, e, x[3])
	}
	for _, x := range [][]int{{10, 4, 4}, {0, 4, 0}} {
		n, e := colour.Count(x[0], x[1], x[2])
		refused(t, "Count", x, n, e)
	}
	if l, e := colour.Frames(10, 4, []int{1, 3}); !slices.Equal(l, []int{1, 3, 5, 7, 9}) || e != api.OK {
		t.Errorf("Frames(10, 4, 1 3) = %v, %d", l, e)
	}
	if l, e := colour.Frames(10, 4, nil); len(l) != 0 || e != api.OK {
		t.Errorf("Frames(10, 4, none) = %v, %d", l, e)
	}
	for _, l := range [][]int{{3, 1}, {1, 1}, {4}} {
		noList(t, 10, 4, l)
	}
}

func TestP8_2EachCount(t *testing.T) {
	for colours := 1; colours <= 16; colours++ {
		of, _ := dealt(colours)
		counts := make([]int, colours)
		for frame := range 4096 {
			counts[of[frame]]++
			for c, want := range counts {
				n, e := colour.Count(frame+1, colours, c)
				answer(t, "Count", []int{frame + 1, colours, c}, n, e, want)
			}
		}
	}
}

func TestP8_2WrongCounts(t *testing.T) {
	no := func(frames, colours, c int) {
		t.Helper()
		n, e := colour.Count(frames, colours, c)
		refused(t, "Count", []int{frames, colours, c}, n, e)
	}
	for _, frames := range wrongCounts(4096) {
		for colours := 1; colours <= 16; colours++ {
			no(frames, colours, 0)
			no(frames, colours, colours-1)
			no(frames, colours, colours)
		}
	}
	for _, colours := range wrongCounts(16) {
		for _, c := range []int{0, 1, 16, -1, math.MaxInt, math.MinInt} {
			no(10, colours, c)
			no(4096, colours, c)
			no(0, colours, c)
		}
	}
	for colours := 1; colours <= 16; colours++ {
		for _, c := range wrong(colours) {
			no(1, colours, c)
			no(4096, colours, c)
		}
	}
}

// chosen is the colours whose bits are set.
func chosen(bits int) []int {
	var l []int
	for c := range 16 {
		if bits>>c&1 == 1 {
			l = append(l, c)
		}
	}
	return l
}

// someFrames are numbers of frames around those at which something changes.
func someFrames(colours int) []int {
	l := []int{1, 2, 3, 10, 33, 4095, 4096}
	for _, n := range []int{colours, 2 * colours, 7 * colours} {
		l = append(l, max(1, n-1), n, n+1)
	}
	return l
}

// yes fails the test unless Frames answers just the frames that are dealt to one of the colours in l.
func yes(t *testing.T, frames, colours int, of *[4096]int, l []int) {
	t.Helper()
	var want []int
	for frame := range frames {
		if slices.Contains(l, of[frame]) {
			want = append(want, frame)
		}
	}
	if got, e := colour.Frames(frames, colours, l); !slices.Equal(got, want) || e != api.OK {
		t.Fatalf("Frames(%d, %d, %v) = %v, %d; want %v", frames, colours, l, got, e, want)
	}
}

func noList(t *testing.T, frames, colours int, l []int) {
	t.Helper()
	if got, e := colour.Frames(frames, colours, l); len(got) != 0 || e != api.ErrArg {
		t.Fatalf("Frames(%d, %d, %v) = %v, %d; want none, ErrArg", frames, colours, l, got, e)
	}
}

func TestP8_2EachChoiceOfFewColours(t *testing.T) {
	for colours := 1; colours <= 6; colours++ {
		of, _ := dealt(colours)
		for bits := range 1 << colours {
			for _, frames := range someFrames(colours) {
				yes(t, frames, colours, &of, chosen(bits))
			}
		}
	}
}

func TestP8_2SomeChoicesOfManyColours(t *testing.T) {
	for colours := 7; colours <= 16; colours++ {
		of, _ := dealt(colours)
		all := 1<<colours - 1
		for _, bits := range []int{0, 1, all, all - 1, all >> 1, all &^ 8, 1 << (colours - 1), 1<<(colours-1) | 1, 0x5555 & all, 0xaaaa & all, 0x1234 & all, 0xbeef & all} {
			for _, frames := range someFrames(colours) {
				yes(t, frames, colours, &of, chosen(bits))
			}
		}
	}
}

func TestP8_2ManyNumbersOfFrames(t *testing.T) {
	of, _ := dealt(5)
	for frames := 1; frames <= 4096; frames += 1 + frames/20 {
		yes(t, frames, 5, &of, []int{0, 2, 3})
	}
}

func TestP8_2EmptyListNotNil(t *testing.T) {
	if l, e := colour.Frames(10, 4, []int{}); len(l) != 0 || e != api.OK {
		t.Errorf("%v, %d; want none, OK", l, e)
	}
}

func TestP8_2WrongNumbersOfFramesAndColours(t *testing.T) {
	for _, l := range [][]int{nil, {}, {0}, {0, 1}, {16}, {-1}} {
		for _, frames := range wrongCounts(4096) {
			noList(t, frames, 4, l)
			noList(t, frames, 16, l)
			noList(t, frames, 0, l)
		}
		for _, colours := range wrongCounts(16) {
			noList(t, 1, colours, l)
			noList(t, 10, colours, l)
			noList(t, 4096, colours, l)
		}
	}
}

// A wrong number is found at each place of a list that is right but for it.
func TestP8_2WrongLists(t *testing.T) {
	for colours := 1; colours <= 16; colours++ {
		right := chosen(1<<colours - 1)
		for at := range right {
			for _, c := range wrong(colours) {
				l := slices.Clone(right)
				l[at] = c
				noList(t, 40, colours, l)
				noList(t, 40, colours, slices.Insert(slices.Clone(right), at, c))
			}
			noList(t, 40, colours, slices.Insert(slices.Clone(right), at, right[at]))
			if at > 0 {
				l := slices.Clone(right)
				l[at], l[at-1] = l[at-1], l[at]
				noList(t, 40, colours, l)
			}
		}
		noList(t, 40, colours, append(slices.Clone(right), 0))
		noList(t, 40, colours, append(slices.Clone(right), colours))
	}
	for _, l := range [][]int{{-1, 0}, {math.MinInt}, {math.MinInt, 0}, {0, math.MaxInt}, {2, 0, 1}, {0, 2, 2}, {0, 3, 2}, make([]int, 1025), make([]int, 5000)} {
		noList(t, 10, 4, l)
	}
}

// P8.3

func TestP8_3Examples(t *testing.T) {
	n, e := colour.Set(0x0a35, 4)
	answer(t, "Set", []int{0x0a35, 4}, n, e, 35)
	n, e = colour.Owner(35, 4)
	answer(t, "Owner", []int{35, 4}, n, e, 2)
	for _, colours := range []int{4, 0} {
		if n, e := colour.Set(1<<20, colours); n != 0 || e != api.ErrAddr {
			t.Errorf("Set(2^20, %d) = %d, %d; want 0, ErrAddr", colours, n, e)
		}
	}
	for _, x := range [][]int{{64, 4}, {0, 0}} {
		n, e := colour.Owner(x[0], x[1])
		refused(t, "Owner", x, n, e)
	}
}

func TestP8_3EachAddress(t *testing.T) {
	for colours := 1; colours <= 16; colours++ {
		of, _ := dealt(colours)
		pa := uint64(0)
		for frame := range 4096 {
			for line := range 16 {
				for range 16 {
					if n, e := colour.Set(pa, colours); n != of[frame]*16+line || e != api.OK {
						t.Fatalf("Set(%#x, %d) = %d, %d; want %d, OK", pa, colours, n, e, of[frame]*16+line)
					}
					pa++
				}
			}
		}
	}
}

func TestP8_3WrongAddresses(t *testing.T) {
	for _, pa := range []uint64{1 << 20, 1<<20 + 1, 1<<20 + 0xa35, 1 << 21, 1<<28 - 1, 1 << 32, 1<<32 + 5, 1 << 40, 1 << 63, math.MaxUint64, math.MaxUint64 - 255} {
		for _, colours := range append(wrongCounts(16), 1, 3, 4, 16) {
			if n, e := colour.Set(pa, colours); n != 0 || e != api.ErrAddr {
				t.Errorf("Set(%#x, %d) = %d, %d; want 0, ErrAddr", pa, colours, n, e)
			}
		}
	}
	for _, pa := range []uint64{0, 1, 0xa35, 1<<20 - 1} {
		for _, colours := range wrongCounts(16) {
			n, e := colour.Set(pa, colours)
			refused(t, "Set", []int{int(pa), colours}, n, e)
		}
	}
}

func TestP8_3EachSet(t *testing.T) {
	for colours := 1; colours <= 16; colours++ {
		set := 0
		for c := range colours {
			for range 16 {
				n, e := colour.Owner(set, colours)
				answer(t, "Owner", []int{set, colours}, n, e, c)
				set++
			}
		}
		for _, set := range wrong(16 * colours) {
			n, e := colour.Owner(set, colours)
			refused(t, "Owner", []int{set, colours}, n, e)
		}
	}
	for _, colours := range wrongCounts(16) {
		for _, set := range []int{0, 1, 35, 255, 256, -1, math.MaxInt, math.MinInt} {
			n, e := colour.Owner(set, colours)
			refused(t, "Owner", []int{set, colours}, n, e)
		}
	}
}

// P8.4

func TestP8_4ListsAreOnlyRead(t *testing.T) {
	for _, room := range [][]int{{0, 2, 3, 9, 8, 7}, {3, 2, 1, 9, 8, 7}, {0, 2, 77, 9, 8, 7}, {1, 1, -1, 9, 8, 7}} {
		before := slices.Clone(room)
		colour.Frames(100, 5, room[:3])
		if !slices.Equal(room, before) {
			t.Errorf("Frames changed its argument, or the spare room behind it: %v; was %v", room, before)
		}
	}
}

func TestP8_4AnswersAreNewMemory(t *testing.T) {
	scribble := func(l []int) {
		l = l[:cap(l)]
		for i := range l {
			l[i] = -7
		}
	}
	// With one frame of each colour the answer is just what was handed in: only its memory may differ.
	for _, frames := range []int{4, 10, 4096} {
		l := []int{0, 1, 3}
		first, _ := colour.Frames(frames, 4, l)
		second, _ := colour.Frames(frames, 4, l)
		want := slices.Clone(second)
		scribble(first)
		if !slices.Equal(l, []int{0, 1, 3}) {
			t.Errorf("%d frames: what was answered shares memory with what was handed in: %v", frames, l)
		}
		scribble(l)
		third, e := colour.Frames(frames, 4, []int{0, 1, 3})
		if !slices.Equal(second, want) || !slices.Equal(third, want) || e != api.OK {
			t.Errorf("%d frames: %v, then %v, %d; want %v", frames, second, third, e, want)
		}
	}
}

// P8.5

func TestP8_5ThereAndBack(t *testing.T) {
	each(func(frame, colours int) {
		c, a := colour.Of(frame, colours)
		i, b := colour.Index(frame, colours)
		f, e := colour.Frame(c, i, colours)
		if f != frame || a != api.OK || b != api.OK || e != api.OK {
			t.Fatalf("Frame(%d, %d, %d) = %d, %d; want %d", c, i, colours, f, e, frame)
		}
	})
}

// setsOf is the sets of a frame's lines, in the lines' order.
func setsOf(t *testing.T, frame, colours int) [16]int {
	t.Helper()
	var l [16]int
	for line := range l {
		set, e := colour.Set(uint64(frame*256+line*16), colours)
		if e != api.OK {
			t.Fatalf("line %d of frame %d of %d colours: %d", line, frame, colours, e)
		}
		l[line] = set
	}
	return l
}

func TestP8_5LinesOfAFrame(t *testing.T) {
	each(func(frame, colours int) {
		c, _ := colour.Of(frame, colours)
		seen := map[int]bool{}
		for _, set := range setsOf(t, frame, colours) {
			if o, e := colour.Owner(set, colours); o != c || e != api.OK {
				t.Fatalf("frame %d of %d colours: the set %d is of the colour %d, %d; want %d", frame, colours, set, o, e, c)
			}
			seen[set] = true
		}
		if len(seen) != 16 {
			t.Fatalf("frame %d of %d colours: only %d sets", frame, colours, len(seen))
		}
	})
}

func TestP8_5FramesMeetInTheirColour(t *testing.T) {
	some := []int{0, 1, 2, 3, 4, 5, 6, 7, 8, 9, 10, 15, 16, 17, 31, 32, 33, 48, 255, 256, 1000, 2047, 2048, 4079, 4080, 4094, 4095}
	for colours := 1; colours <= 16; colours++ {
		for _, f := range some {
			for _, g := range some {
				meet := false
				theirs := setsOf(t, g, colours)
				for _, set := range setsOf(t, f, colours) {
					meet = meet || slices.Contains(theirs[:], set)
				}
				a, _ := colour.Of(f, colours)
				b, _ := colour.Of(g, colours)
				if meet != (a == b) {
					t.Fatalf("frames %d and %d of %d colours have the colours %d and %d; meet in a set: %v", f, g, colours, a, b, meet)
				}
			}
		}
	}
}

// P8.6

func counts(t *testing.T, frames, colours int, l []int) int {
	t.Helper()
	sum := 0
	for _, c := range l {
		n, e := colour.Count(frames, colours, c)
		if e != api.OK {
			t.Fatalf("Count(%d, %d, %d): %d", frames, colours, c, e)
		}
		sum += n
	}
	return sum
}

func TestP8_6CountsAreAllFrames(t *testing.T) {
	for colours := 1; colours <= 16; colours++ {
		all := chosen(1<<colours - 1)
		for frames := 1; frames <= 4096; frames++ {
			if n := counts(t, frames, colours, all); n != frames {
				t.Fatalf("the counts of %d frames of %d colours are together %d", frames, colours, n)
			}
		}
	}
}

func TestP8_6FramesAreAsManyAsCounts(t *testing.T) {
	for colours := 1; colours <= 16; colours++ {
		for bits := 0; bits < 1<<colours; bits += 1 + bits/9 {
			l := chosen(bits)
			for _, frames := range someFrames(colours) {
				got, e := colour.Frames(frames, colours, l)
				if e != api.OK || len(got) != counts(t, frames, colours, l) {
					t.Fatalf("Frames(%d, %d, %v): %d frames, %d; want %d", frames, colours, l, len(got), e, counts(t, frames, colours, l))
				}
				for i, frame := range got {
					c, e := colour.Of(frame, colours)
					if e != api.OK || !slices.Contains(l, c) || frame >= frames || i > 0 && frame <= got[i-1] {
						t.Fatalf("Frames(%d, %d, %v): %d of the colour %d at %d", frames, colours, l, frame, c, i)
					}
				}
			}
		}
	}
}

func TestP8_6AllColoursAreAllFrames(t *testing.T) {
	for colours := 1; colours <= 16; colours++ {
		for _, frames := range someFrames(colours) {
			l, e := colour.Frames(frames, colours, chosen(1<<colours-1))
			if len(l) != frames || e != api.OK {
				t.Fatalf("%d frames of %d colours: %d, %d", frames, colours, len(l), e)
			}
			for i, frame := range l {
				if frame != i {
					t.Fatalf("%d frames of %d colours: %d at %d", frames, colours, frame, i)
				}
			}
		}
	}
}
