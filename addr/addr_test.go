package addr_test

import (
	"math"
	"slices"
	"testing"

	"cofferdam/addr"
	"cofferdam/api"
)

// Numbers that are wrong wherever a page, an offset, a level, a frame or a size is asked for.
var wrongNumbers = []int{-1, math.MinInt, math.MaxInt, math.MinInt + 1, 1 << 32, -1 << 32}

func wrongAnd(more ...int) []int { return append(more, wrongNumbers...) }

// P1.1

func TestP1_1Split(t *testing.T) {
	for _, c := range []struct {
		va        uint64
		page, off int
		e         api.Errno
	}{
		{0, 0, 0, api.OK},
		{255, 0, 255, api.OK},
		{256, 1, 0, api.OK},
		{0x1234, 18, 52, api.OK},
		{1<<27 + 1, api.HeapBase, 1, api.OK},
		{1<<28 - 1, 1<<20 - 1, 255, api.OK},
		{1 << 28, 0, 0, api.ErrAddr},
		{1<<28 + 0x1234, 0, 0, api.ErrAddr},
		{1 << 32, 0, 0, api.ErrAddr},
		{1 << 63, 0, 0, api.ErrAddr},
		{math.MaxUint64, 0, 0, api.ErrAddr},
	} {
		if p, o, e := addr.Split(c.va); p != c.page || o != c.off || e != c.e {
			t.Errorf("Split(%#x) = %d, %d, %d; want %d, %d, %d", c.va, p, o, e, c.page, c.off, c.e)
		}
	}
}

func TestP1_1Join(t *testing.T) {
	for _, c := range []struct {
		page, off int
		va        uint64
	}{
		{0, 0, 0}, {18, 52, 4660}, {0, 255, 255}, {1, 0, 256}, {api.HeapBase, 1, 1<<27 + 1}, {1<<20 - 1, 255, 1<<28 - 1},
	} {
		if va, e := addr.Join(c.page, c.off); va != c.va || e != api.OK {
			t.Errorf("Join(%d, %d) = %d, %d; want %d", c.page, c.off, va, e, c.va)
		}
	}
	for _, page := range wrongAnd(1 << 20) {
		if va, e := addr.Join(page, 0); va != 0 || e != api.ErrArg {
			t.Errorf("Join(%d, 0) = %d, %d; want ErrArg", page, va, e)
		}
	}
	for _, off := range wrongAnd(256) {
		if va, e := addr.Join(18, off); va != 0 || e != api.ErrArg {
			t.Errorf("Join(18, %d) = %d, %d; want ErrArg", off, va, e)
		}
	}
}

// P1.2

// power is 32 to the power v, by multiplying, so that it shares nothing with the shifts that are tested.
func power(v int) int {
	n := 1
	for range v {
		n *= api.Entries
	}
	return n
}

func TestP1_2IndexAndTable(t *testing.T) {
	for _, page := range []int{0, 1, 31, 32, 33, 1023, 1024, 1057, 32767, 32768, api.HeapBase, 700001, 1<<20 - 1} {
		for level := range api.Levels {
			i, e := addr.Index(page, level)
			if want := page / power(level) % 32; i != want || e != api.OK {
				t.Errorf("Index(%d, %d) = %d, %d; want %d", page, level, i, e, want)
			}
			n, e := addr.Table(page, level)
			if want := page / power(level+1); n != want || e != api.OK {
				t.Errorf("Table(%d, %d) = %d, %d; want %d", page, level, n, e, want)
			}
		}
	}
}

func TestP1_2Examples(t *testing.T) {
	for level, want := range [][2]int{{1, 33}, {1, 1}, {1, 0}, {0, 0}} {
		i, a := addr.Index(1057, level)
		n, b := addr.Table(1057, level)
		if i != want[0] || n != want[1] || a != api.OK || b != api.OK {
			t.Errorf("level %d: %d, %d, %d, %d; want %v", level, i, a, n, b, want)
		}
	}
}

func TestP1_2WrongInputs(t *testing.T) {
	refused := func(page, level int) {
		if i, e := addr.Index(page, level); i != 0 || e != api.ErrArg {
			t.Errorf("Index(%d, %d) = %d, %d; want ErrArg", page, level, i, e)
		}
		if n, e := addr.Table(page, level); n != 0 || e != api.ErrArg {
			t.Errorf("Table(%d, %d) = %d, %d; want ErrArg", page, level, n, e)
		}
	}
	for _, page := range wrongAnd(1 << 20) {
		for level := range api.Levels {
			refused(page, level)
		}
	}
	for _, level := range wrongAnd(4, 5) {
		refused(1<<20-1, level)
	}
}

// P1.3

func TestP1_3Tables(t *testing.T) {
	for _, c := range []struct {
		l []api.Span
		n int
	}{
		{nil, 1},
		{[]api.Span{}, 1},
		{[]api.Span{{Page: 5, N: 1}}, 4},
		{[]api.Span{{Page: 31, N: 2}}, 5},
		{[]api.Span{{Page: 31, N: 1}}, 4},
		{[]api.Span{{Page: 1023, N: 2}}, 6},
		{[]api.Span{{Page: 32767, N: 2}}, 7},
		{[]api.Span{{Page: 1<<20 - 1, N: 1}}, 4},
		{[]api.Span{{Page: 0, N: 1 << 20}}, 33825},
		{[]api.Span{{Page: api.HeapBase, N: api.MaxHeap}}, 35},
		{[]api.Span{{Page: 5, N: 1}, {Page: 5, N: 1}}, 4},
		{[]api.Span{{Page: 5, N: 1}, {Page: 2000, N: 1}}, 6},
		{[]api.Span{{Page: 2000, N: 1}, {Page: 5, N: 1}}, 6},
		{[]api.Span{{Page: 0, N: 1 << 20}, {Page: 7, N: 100}, {Page: 1<<20 - 1, N: 1}}, 33825},
		{[]api.Span{{Page: 0, N: 320}, {Page: 33, N: 1}, {Page: 300, N: 40}}, 1 + 1 + 1 + 11},
	} {
		if n, e := addr.Tables(c.l); n != c.n || e != api.OK {
			t.Errorf("Tables(%v) = %d, %d; want %d", c.l, n, e, c.n)
		}
	}
}

func TestP1_3EmptySpansNeedNothing(t *testing.T) {
	for _, page := range []int{0, 5, 1 << 19, 1<<20 - 1, 1 << 20} {
		empty := api.Span{Page: page}
		if n, e := addr.Tables([]api.Span{empty}); n != 1 || e != api.OK {
			t.Errorf("Tables(%v) = %d, %d; want 1", empty, n, e)
		}
		if n, e := addr.Tables([]api.Span{empty, {Page: 900, N: 1}, empty}); n != 4 || e != api.OK {
			t.Errorf("with %v twice: %d, %d; want 4", empty, n, e)
		}
	}
}

func TestP1_3WrongSpans(t *testing.T) {
	for _, s := range []api.Span{
		{Page: 1, N: 1 << 20},
		{Page: 0, N: 1<<20 + 1},
		{Page: 1 << 20, N: 1},
		{Page: 1<<20 + 1, N: 0},
		{Page: -1, N: 0},
		{Page: -1, N: 1},
		{Page: 0, N: -1},
		{Page: 5, N: -1},
		{Page: math.MaxInt, N: math.MaxInt},
		{Page: math.MaxInt, N: 1},
		{Page: 1, N: math.MaxInt},
		{Page: math.MinInt, N: math.MinInt},
		{Page: math.MinInt, N: math.MaxInt},
		{Page: math.MaxInt, N: math.MinInt},
	} {
		for _, l := range [][]api.Span{{s}, {{Page: 5, N: 1}, s}, {s, {Page: 5, N: 1}}} {
			if n, e := addr.Tables(l); n != 0 || e != api.ErrArg {
				t.Errorf("Tables(%v) = %d, %d; want ErrArg", l, n, e)
			}
		}
	}
}

func TestP1_3TooMany(t *testing.T) {
	most := make([]api.Span, api.MaxRegions)
	for i := range most {
		most[i] = api.Span{Page: i * 1024, N: 1}
	}
	if n, e := addr.Tables(most); n != 1+32+1024+1024 || e != api.OK {
		t.Errorf("1024 spans: %d, %d", n, e)
	}
	if n, e := addr.Tables(append(most, api.Span{})); n != 0 || e != api.ErrMany {
		t.Errorf("1025 spans: %d, %d; want ErrMany", n, e)
	}
	wrong := slices.Repeat([]api.Span{{Page: -1, N: -1}}, api.MaxRegions+1)
	if n, e := addr.Tables(wrong); n != 0 || e != api.ErrMany {
		t.Errorf("1025 wrong spans: %d, %d; want ErrMany ahead of ErrArg", n, e)
	}
	if n, e := addr.Tables(wrong[:api.MaxRegions]); n != 0 || e != api.ErrArg {
		t.Errorf("1024 wrong spans: %d, %d; want ErrArg", n, e)
	}
}

// P1.4

func TestP1_4Place(t *testing.T) {
	for _, c := range []struct {
		frame, off int
		pa         uint64
	}{{0, 0, 0}, {3, 7, 775}, {0, 255, 255}, {1, 0, 256}, {1<<12 - 1, 255, 1<<20 - 1}} {
		if pa, e := addr.Place(c.frame, c.off); pa != c.pa || e != api.OK {
			t.Errorf("Place(%d, %d) = %d, %d; want %d", c.frame, c.off, pa, e, c.pa)
		}
	}
	for _, frame := range wrongAnd(1 << 12) {
		if pa, e := addr.Place(frame, 0); pa != 0 || e != api.ErrArg {
			t.Errorf("Place(%d, 0) = %d, %d; want ErrArg", frame, pa, e)
		}
	}
	for _, off := range wrongAnd(256) {
		if pa, e := addr.Place(3, off); pa != 0 || e != api.ErrArg {
			t.Errorf("Place(3, %d) = %d, %d; want ErrArg", off, pa, e)
		}
	}
}

func TestP1_4FrameAndLine(t *testing.T) {
	for _, c := range []struct {
		pa               uint64
		frame, off, line int
	}{{0, 0, 0, 0}, {15, 0, 15, 0}, {16, 0, 16, 1}, {256, 1, 0, 16}, {775, 3, 7, 48}, {1<<20 - 1, 1<<12 - 1, 255, 65535}} {
		if f, o, e := addr.Frame(c.pa); f != c.frame || o != c.off || e != api.OK {
			t.Errorf("Frame(%d) = %d, %d, %d; want %d, %d", c.pa, f, o, e, c.frame, c.off)
		}
		if l, e := addr.Line(c.pa); l != c.line || e != api.OK {
			t.Errorf("Line(%d) = %d, %d; want %d", c.pa, l, e, c.line)
		}
	}
	for _, pa := range []uint64{1 << 20, 1<<20 + 775, 1<<28 - 1, 1 << 32, 1 << 63, math.MaxUint64} {
		if f, o, e := addr.Frame(pa); f != 0 || o != 0 || e != api.ErrAddr {
			t.Errorf("Frame(%d) = %d, %d, %d; want ErrAddr", pa, f, o, e)
		}
		if l, e := addr.Line(pa); l != 0 || e != api.ErrAddr {
			t.Errorf("Line(%d) = %d, %d; want ErrAddr", pa, l, e)
		}
	}
}

// P1.5

func TestP1_5Run(t *testing.T) {
	for _, c := range []struct {
		va        uint64
		size      int
		page, off int
		e         api.Errno
	}{
		{0x1234, 8, 18, 52, api.OK},
		{0x12f8, 8, 18, 248, api.OK},
		{0x12f9, 8, 0, 0, api.ErrArg},
		{0x12ff, 1, 18, 255, api.OK},
		{0x12ff, 2, 0, 0, api.ErrArg},
		{1<<28 - 8, 8, 1<<20 - 1, 248, api.OK},
		{1<<28 - 7, 8, 0, 0, api.ErrArg},
		{0, 1, 0, 0, api.OK},
		{0, 0, 0, 0, api.ErrArg},
		{0, 9, 0, 0, api.ErrArg},
		{256, -1, 0, 0, api.ErrArg},
		{511, math.MaxInt, 0, 0, api.ErrArg},
		{511, math.MinInt, 0, 0, api.ErrArg},
		{1 << 28, 0, 0, 0, api.ErrAddr},
		{1 << 28, 1, 0, 0, api.ErrAddr},
		{math.MaxUint64, 8, 0, 0, api.ErrAddr},
	} {
		if p, o, e := addr.Run(c.va, c.size); p != c.page || o != c.off || e != c.e {
			t.Errorf("Run(%#x, %d) = %d, %d, %d; want %d, %d, %d", c.va, c.size, p, o, e, c.page, c.off, c.e)
		}
	}
}

func TestP1_5RunAtEachPlaceOfAPage(t *testing.T) {
	for off := range api.PageSize {
		for size := 1; size <= api.MaxSize; size++ {
			p, o, e := addr.Run(uint64(7*api.PageSize+off), size)
			stays := off+size <= api.PageSize
			if stays && (p != 7 || o != off || e != api.OK) || !stays && (p != 0 || o != 0 || e != api.ErrArg) {
				t.Errorf("offset %d, size %d: %d, %d, %d", off, size, p, o, e)
			}
		}
	}
}

// P1.6

func TestP1_6ListsAreOnlyRead(t *testing.T) {
	for _, last := range []api.Span{{Page: 2, N: 3}, {Page: -1, N: 3}} {
		room := []api.Span{{Page: 9000, N: 40}, {Page: 77}, {Page: 5, N: 1}, last, {Page: 4, N: 4}, {Page: 3, N: 3}}
		before := slices.Clone(room)
		addr.Tables(room[:4])
		if !slices.Equal(room, before) {
			t.Errorf("Tables changed its argument, or the spare room behind it: %v; was %v", room, before)
		}
	}
}

// P1.7

func TestP1_7ThereAndBack(t *testing.T) {
	for page := range api.MaxPages {
		off := page * 7 % api.PageSize
		va, _ := addr.Join(page, off)
		p, o, e := addr.Split(va)
		if p != page || o != off || e != api.OK {
			t.Fatalf("Split(Join(%d, %d)) = %d, %d, %d", page, off, p, o, e)
		}
		if back, e := addr.Join(p, o); back != va || e != api.OK {
			t.Fatalf("Join(Split(%d)) = %d, %d", va, back, e)
		}
	}
	for pa := range uint64(api.MaxFrames * api.PageSize) {
		f, o, _ := addr.Frame(pa)
		back, e := addr.Place(f, o)
		if back != pa || e != api.OK {
			t.Fatalf("Place(Frame(%d)) = %d, %d", pa, back, e)
		}
		if f2, o2, e := addr.Frame(back); f2 != f || o2 != o || e != api.OK {
			t.Fatalf("Frame(Place(%d, %d)) = %d, %d, %d", f, o, f2, o2, e)
		}
	}
}

func TestP1_7EntriesAreDigits(t *testing.T) {
	for page := range api.MaxPages {
		digits, above := 0, 0
		for level := api.Levels - 1; level >= 0; level-- {
			n, _ := addr.Table(page, level)
			if n != digits || n != above {
				t.Fatalf("Table(%d, %d) = %d; want %d", page, level, n, digits)
			}
			i, _ := addr.Index(page, level)
			if i < 0 || i >= api.Entries {
				t.Fatalf("Index(%d, %d) = %d", page, level, i)
			}
			digits = digits*api.Entries + i
			above = n*api.Entries + i
		}
		if digits != page {
			t.Fatalf("the entries of page %d are the digits of %d", page, digits)
		}
	}
}

// P1.8

// dice is a row of numbers that is the same each time.
type dice uint64

func (d *dice) below(n int) int {
	*d = *d*6364136223846793005 + 1442695040888963407
	return int((uint64(*d) >> 33) % uint64(n))
}

func (d *dice) span() api.Span {
	page := d.below(api.MaxPages + 1)
	if d.below(2) == 0 {
		page = d.below(4000)
	}
	width := []int{1, 2, 40, 300, 5000}[d.below(5)]
	return api.Span{Page: page, N: d.below(min(width, api.MaxPages-page) + 1)}
}

func (d *dice) spans() []api.Span {
	l := make([]api.Span, d.below(8))
	for i := range l {
		l[i] = d.span()
	}
	return l
}

// counted is how many tables the pages need, page by page.
func counted(l []api.Span) int {
	type table struct{ level, number int }
	seen := map[table]bool{{3, 0}: true}
	for _, s := range l {
		for page := s.Page; page < s.Page+s.N; page++ {
			for level := range 3 {
				seen[table{level, page / power(level+1)}] = true
			}
		}
	}
	return len(seen)
}

func tables(t *testing.T, l []api.Span) int {
	t.Helper()
	n, e := addr.Tables(l)
	if e != api.OK {
		t.Fatalf("Tables(%v): %d", l, e)
	}
	return n
}

func TestP1_3TablesAsCounted(t *testing.T) {
	d := dice(3)
	for range 400 {
		l := d.spans()
		if n, want := tables(t, l), counted(l); n != want {
			t.Fatalf("Tables(%v) = %d; want %d", l, n, want)
		}
	}
}

func TestP1_8OrderDoesNotMatter(t *testing.T) {
	d := dice(8)
	for range 1000 {
		l := d.spans()
		want := tables(t, l)
		other := slices.Clone(l)
		slices.Reverse(other)
		if n := tables(t, other); n != want {
			t.Fatalf("%v: %d; the other way round %d", l, want, n)
		}
		for i := range other {
			j := d.below(i + 1)
			other[i], other[j] = other[j], other[i]
		}
		if n := tables(t, other); n != want {
			t.Fatalf("%v: %d; as %v %d", l, want, other, n)
		}
	}
}

func TestP1_8CutsDoNotMatter(t *testing.T) {
	d := dice(80)
	for range 1000 {
		l := append(d.spans(), d.span())
		want := tables(t, l)
		i := d.below(len(l))
		s, at := l[i], d.below(l[i].N+1)
		l[i].N = at
		l = append(l, api.Span{Page: s.Page + at, N: s.N - at})
		if n := tables(t, l); n != want {
			t.Fatalf("%v cut at %d in %v: %d; was %d", s, at, l, n, want)
		}
	}
}

func TestP1_8OneSpanMore(t *testing.T) {
	d := dice(800)
	for range 1000 {
		l, s := d.spans(), d.span()
		before, alone := tables(t, l), tables(t, []api.Span{s})
		if n := tables(t, append(l, s)); n < before || n > before+alone-1 {
			t.Fatalf("%v and %v: %d; without it %d, it alone %d", l, s, n, before, alone)
		}
	}
}
