package space_test

import (
	"fmt"
	"math"
	"slices"
	"testing"

	"cofferdam/api"
	"cofferdam/space"
)

// base is the first page of the heap; below it lie the low pages.
const base = 1 << 19

// top is 2^20, behind the last page.
const top = 1 << 20

// four is the address space of the document's examples: its heap has 4 pages.
func four() api.Space { return made(4, 1, 2, 3, base, 4, 3) }

// made is an address space, whose regions are told by three numbers each: Page, N, Perm.
func made(heap int, x ...int) api.Space {
	return api.Space{Regions: regions(x...), Heap: heap}
}

func regions(x ...int) []api.Region {
	var l []api.Region
	for ; len(x) > 0; x = x[3:] {
		l = append(l, region(x[0], x[1], x[2]))
	}
	return l
}

func region(page, n, perm int) api.Region { return api.Region{Page: page, N: n, Perm: uint8(perm)} }

// brief is what a failed test tells of an address space: of many regions only the last ones.
func brief(s api.Space) string {
	if n := len(s.Regions); n > 8 {
		return fmt.Sprintf("%d regions, the last of them %v, heap %d", n, s.Regions[n-8:], s.Heap)
	}
	return fmt.Sprint(s.Regions, " heap ", s.Heap)
}

func same(a, b api.Space) bool { return a.Heap == b.Heap && slices.Equal(a.Regions, b.Regions) }

// perms are those that a page may have.
func perms() []int { return []int{0, 1, 3} }

// wrongPerms are all others.
func wrongPerms() []uint8 {
	var l []uint8
	for perm := range 256 {
		if !slices.Contains(perms(), perm) {
			l = append(l, uint8(perm))
		}
	}
	return l
}

// far are numbers that are far outside; some of them wrap round to small ones, if they are added to, taken away or cut.
func far() []int {
	l := []int{-1, -2, -64, -65, -1024, -base, -top, top + 1, 1 << 21, 1 << 31, 1<<31 - 1, 1 << 32, 1<<32 + 1, -1 << 32, 1<<32 + base}
	return append(l, 1<<62, -1<<62, math.MaxInt, math.MaxInt-1, math.MaxInt-64, math.MaxInt-base, math.MinInt, math.MinInt+1, math.MinInt+64, math.MinInt+base)
}

// lows are pages: the first one and how many.
type lows struct{ page, n int }

// wrongLows are low pages that may not be, those that Map takes to be anywhere not among them.
func wrongLows() []lows {
	l := []lows{{1, 0}, {1, -1}, {1, 65}, {9, 65}, {5, 128}, {9, 0}, {-1, 1}, {-1, 2}, {-63, 64}, {base, 1}, {base, 0}, {base, -1}, {base - 1, 2}, {base - 1, 64}, {base - 63, 64}, {base - 64, 65}, {base + 1, 1}, {top - 1, 1}, {top, 1}}
	for _, x := range far() {
		l = append(l, lows{x, 1}, lows{x, 64}, lows{x, 0}, lows{x, -x}, lows{x, base - x}, lows{1, x}, lows{9, x}, lows{base - 1, x}, lows{base, x})
	}
	return l
}

// wrongCounts are numbers that pages anywhere may not have.
func wrongCounts() []int { return append(far(), 0, 65, 66, 128, base, base-1, top) }

// wrongSpaces are address spaces that may not be, each with its error.
func wrongSpaces() map[api.Errno][]api.Space {
	long := api.Space{Regions: append(spaced(1024).space().Regions, region(9000, 1, 1))}
	late := spaced(1024).space()
	late.Regions[1023].Perm = 2
	heap := long
	heap.Heap = -1
	args := []api.Space{
		made(0, 0, 1, 1), made(0, 5, 0, 1), made(0, 5, 1, 2), made(0, 10, 2, 3, 5, 3, 1), made(0, 5, 3, 1, 8, 1, 1), made(0, 5, 3, 1, 7, 1, 3), made(0, -1, 2, 1), made(0, base, base+1, 3),
		made(1), made(-1), made(1025), made(4, 5, 1, 1), made(3, 1, 2, 3, base, 4, 3), made(5, 1, 2, 3, base, 4, 3), made(0, 1, 2, 3, base, 4, 3), made(-4, 1, 2, 3, base, 4, 3),
		made(1, base, 1, 1), made(1, base, 1, 0), made(1, base+1, 1, 3), made(2, base, 1, 3, base+1, 1, 1), made(1, base, 1, 3, base+2, 1, 3), made(0, base-1, 2, 1), made(1, base-1, 2, 1), made(0, base-1, 2, 3),
		made(1024, base, 1025, 3), made(1025, base, 1025, 3), made(math.MaxInt, base, 4, 3), made(math.MinInt, base, 4, 3), made(0, top-1, 1, 3), made(0, 1, top-1, 3),
		late,
	}
	return map[api.Errno][]api.Space{api.ErrMany: {long, heap, {Regions: make([]api.Region, 1025)}, {Regions: make([]api.Region, 1<<16), Heap: 7}}, api.ErrArg: args}
}

// dice are numbers that look like chance, the same ones in each run.
type dice uint64

func (d *dice) below(n int) int {
	*d = *d*6364136223846793005 + 1442695040888963407
	return int(uint64(*d) >> 33 % uint64(n))
}

func (d *dice) perm() uint8 { return uint8(perms()[d.below(3)]) }

// none is said of a page that is not mapped.
const none = -1

// plain knows of some low pages, each by itself, whether they are mapped and with what permission; all other low pages are as rest says. The heap is a number.
type plain struct {
	low  map[int]int
	rest int
	heap int
}

func empty() plain { return plain{map[int]int{}, none, 0} }

func (p plain) clone() plain {
	low := make(map[int]int, len(p.low))
	for page, perm := range p.low {
		low[page] = perm
	}
	return plain{low, p.rest, p.heap}
}

// at is a page's permission, or none.
func (p plain) at(page int) int {
	if page >= base+p.heap || page < 1 {
		return none
	}
	if page >= base {
		return 3
	}
	if perm, is := p.low[page]; is {
		return perm
	}
	return p.rest
}

// points are the pages ahead of which something may begin, in order.
func (p plain) points() []int {
	l := []int{1, base, base + p.heap}
	for page := range p.low {
		l = append(l, page, page+1)
	}
	slices.Sort(l)
	return slices.Compact(l)
}

// space is p in the one form.
func (p plain) space() api.Space {
	var l []api.Region
	points := p.points()
	before := none
	for i, page := range points[:len(points)-1] {
		perm, n := p.at(page), points[i+1]-page
		if perm != none && perm == before {
			l[len(l)-1].N += n
		} else if perm != none {
			l = append(l, region(page, n, perm))
		}
		before = perm
	}
	return api.Space{Regions: l, Heap: p.heap}
}

// has is how many of so many pages are mapped.
func (p plain) has(page, n int) int {
	count := 0
	for i := range n {
		if p.at(page+i) != none {
			count++
		}
	}
	return count
}

// gap is the lowest place of n low pages that are not mapped: the first low page, or one behind another kind of page.
func (p plain) gap(n int) (int, bool) {
	for _, page := range p.points() {
		if page+n <= base && p.has(page, n) == 0 {
			return page, true
		}
	}
	return 0, false
}

// with is p with low pages that all are as perm says.
func (p plain) with(page, n, perm int) plain {
	p = p.clone()
	for i := range n {
		p.low[page+i] = perm
	}
	return p
}

func (p plain) long(heap int) plain {
	p = p.clone()
	p.heap = heap
	return p
}

// kinds of calls.
const (
	toMap = iota
	toUnmap
	toProtect
	toBrk
)

// call is one of those that make an address space of another one. Of a brk, n is the heap's length.
type call struct {
	kind, page, n int
	perm          uint8
}

// ask asks the program.
func (c call) ask(s api.Space) (got api.Space, at int, e api.Errno) {
	switch c.kind {
	case toMap:
		return space.Map(s, c.page, c.n, c.perm)
	case toUnmap:
		got, e = space.Unmap(s, c.page, c.n)
	case toProtect:
		got, e = space.Protect(s, c.page, c.n, c.perm)
	default:
		got, e = space.Brk(s, c.n)
	}
	return got, 0, e
}

// may says whether the arguments may be, whatever the address space is.
func (c call) may(p plain) bool {
	permMay := c.kind == toUnmap || slices.Contains(perms(), int(c.perm))
	if c.kind == toBrk {
		return c.n >= 0 && c.n <= 1024 && c.n <= p.heap+64 && c.n >= p.heap-64
	}
	if c.n < 1 || c.n > 64 || !permMay {
		return false
	}
	return c.kind == toMap && c.page == 0 || c.page >= 1 && c.page < base && c.page+c.n <= base
}

// plain is what the document says of the call: p behind it, and a map's first page.
func (c call) plain(p plain) (plain, int, api.Errno) {
	if !c.may(p) {
		return p, 0, api.ErrArg
	}
	at, next := 0, p
	switch c.kind {
	case toMap:
		at = c.page
		is := true
		if at == 0 {
			at, is = p.gap(c.n)
		}
		if !is || p.has(at, c.n) > 0 {
			return p, 0, api.ErrBusy
		}
		next = p.with(at, c.n, int(c.perm))
	case toUnmap:
		next = p.with(c.page, c.n, none)
	case toProtect:
		if p.has(c.page, c.n) < c.n {
			return p, 0, api.ErrFault
		}
		next = p.with(c.page, c.n, int(c.perm))
	case toBrk:
		next = p.long(c.n)
	}
	if len(next.space().Regions) > 1024 {
		return p, 0, api.ErrMany
	}
	return next, at, api.OK
}

// keeps hands an address space in, with spare room, and fails the test unless both are as they were then.
func keeps(t *testing.T, s api.Space, do func(s api.Space)) {
	t.Helper()
	all := append(make([]api.Region, 0, len(s.Regions)+3), s.Regions...)
	n := len(all)
	all = append(all, region(-7, -8, 9), region(-10, -11, 12))
	do(api.Space{Regions: all[:n], Heap: s.Heap})
	if !slices.Equal(all[:n], s.Regions) || all[n] != region(-7, -8, 9) || all[n+1] != region(-10, -11, 12) {
		t.Fatalf("%s became %s, its spare room %v", brief(s), brief(api.Space{Regions: all[:n]}), all[n:])
	}
}

// answers fails the test unless a call answers what is wanted, and nothing beside an error.
func answers(t *testing.T, s api.Space, c call, want api.Space, wantAt int, wanted api.Errno) {
	t.Helper()
	keeps(t, s, func(s api.Space) {
		got, at, e := c.ask(s)
		if !same(got, want) || at != wantAt || e != wanted {
			t.Fatalf("%+v of %s: %s, %d, %d; want %s, %d, %d", c, brief(s), brief(got), at, e, brief(want), wantAt, wanted)
		}
	})
}

// goes does a call as the document says and asks the program for it; it answers what there is then.
func goes(t *testing.T, p plain, c call) (plain, api.Errno) {
	t.Helper()
	next, at, e := c.plain(p)
	var want api.Space
	if e == api.OK {
		want = next.space()
	}
	answers(t, p.space(), c, want, at, e)
	return next, e
}

// ends are the low pages that small address spaces have: those at both ends.
func ends() []int { return []int{1, 2, 3, base - 2, base - 1} }

// each calls f with all that the pages at the ends of the low ones can be, in front of heaps of few pages, with nothing between them; then, with few pages at the ends, with all pages between them mapped.
func each(f func(p plain)) {
	fill := func(pages []int, rest, heaps int) {
		for number := range 1 << (2 * len(pages)) {
			p := empty()
			p.rest = rest
			for i, page := range pages {
				p.low[page] = []int{none, 0, 1, 3}[number>>(2*i)&3]
			}
			for heap := range heaps {
				f(p.long(heap))
			}
		}
	}
	fill(ends(), none, 3)
	for _, rest := range perms() {
		fill([]int{1, 2, base - 1}, rest, 2)
	}
}

// spaced has so many regions of one low page, with a page between each two.
func spaced(n int) plain {
	p := empty()
	for i := range n {
		p.low[2*i+2] = perms()[i%3]
	}
	return p
}

// crowded has so many regions of three low pages, with none between; the last ones lie at the heap, the last one of them has the permission 3.
func crowded(n int) plain {
	p := empty()
	for i := range 3 * n {
		p.low[base-1-i] = perms()[(i/3+2)%3]
	}
	return p
}

// refuses fails the test unless every call but Check and Fits answers an error of the address space and nothing else, whatever stands beside it.
func refuses(t *testing.T, s api.Space, page, n int, perm uint8, want api.Errno) {
	t.Helper()
	for kind := toMap; kind <= toBrk; kind++ {
		answers(t, s, call{kind, page, n, perm}, api.Space{}, 0, want)
	}
	keeps(t, s, func(s api.Space) {
		for _, write := range []bool{false, true} {
			if e := space.Access(s, uint64(page)*256, n, write); e != want {
				t.Fatalf("Access(%s, ..) = %d; want %d", brief(s), e, want)
			}
		}
		if got, e := space.Needs(s); got != (api.Needs{}) || e != want {
			t.Fatalf("Needs(%s) = %v, %d; want %d", brief(s), got, e, want)
		}
		for _, l := range [][]api.Space{{s}, {four(), s}, {s, four()}, {{}, s, s}} {
			if got, e := space.Sum(l...); got != (api.Needs{}) || e != want {
				t.Fatalf("Sum of %d, of which is %s: %v, %d; want %d", len(l), brief(s), got, e, want)
			}
		}
	})
}

// P21.1

func TestP21_1ErrorNumbers(t *testing.T) {
	for i, x := range [][2]api.Errno{{api.OK, 0}, {api.ErrArg, 2}, {api.ErrMany, 3}, {api.ErrPlan, 5}, {api.ErrAddr, 10}, {api.ErrFault, 170}, {api.ErrBusy, 171}, {api.ErrPerm, 172}, {api.ErrPart, 270}} {
		if x[0] != x[1] {
			t.Errorf("error %d is %d; want %d", i, x[0], x[1])
		}
	}
}

func checks(t *testing.T, s api.Space, want api.Errno) {
	t.Helper()
	keeps(t, s, func(s api.Space) {
		if e := space.Check(s); e != want {
			t.Fatalf("Check(%s) = %d; want %d", brief(s), e, want)
		}
	})
}

func TestP21_1Examples(t *testing.T) {
	checks(t, four(), api.OK)
	checks(t, made(3, 1, 2, 3, base, 4, 3), api.ErrArg)
	checks(t, made(1, base, 1, 1), api.ErrArg)
	checks(t, made(4, base-1, 5, 3), api.OK)
	checks(t, api.Space{}, api.OK)
	checks(t, api.Space{Regions: []api.Region{}}, api.OK)
}

func TestP21_1MayBe(t *testing.T) {
	each(func(p plain) { checks(t, p.space(), api.OK) })
	for _, heap := range []int{0, 1, 2, 31, 32, 63, 64, 65, 1000, 1023, 1024} {
		for _, low := range []plain{empty(), empty().with(base-1, 1, 3), empty().with(base-1, 1, 1), empty().with(1, 1, 3), spaced(1000), crowded(1000), crowded(1024)} {
			checks(t, low.long(heap).space(), api.OK)
		}
	}
	checks(t, made(0, 1, base-1, 3), api.OK)
	checks(t, made(1024, 1, base+1023, 3), api.OK)
}

// all lists of regions that pages at the heap's beginning can have, with all lengths that the heap could have.
func TestP21_1EachHeap(t *testing.T) {
	const first, width = base - 2, 6
	for number := range 1 << (2 * width) {
		var l []api.Region
		before, heap, rising := none, 0, true
		for i := range width {
			perm := []int{none, 0, 1, 3}[number>>(2*i)&3]
			if perm != none && perm == before {
				l[len(l)-1].N++
			} else if perm != none {
				l = append(l, region(first+i, 1, perm))
			}
			before = perm
			if first+i < base {
				continue
			}
			switch {
			case perm == none:
			case perm == 3 && first+i == base+heap:
				heap++
			default:
				rising = false
			}
		}
		for n := -1; n <= width; n++ {
			want := api.ErrArg
			if rising && n == heap {
				want = api.OK
			}
			checks(t, api.Space{Regions: l, Heap: n}, want)
		}
	}
}

func TestP21_1WrongHeaps(t *testing.T) {
	for _, s := range []api.Space{{}, four(), made(4, base-1, 5, 3), made(0, base-1, 1, 3), made(0, 1, base-1, 1), made(1024, base, 1024, 3), spaced(1024).space(), crowded(1024).space()} {
		for _, heap := range append(far(), 3, 5, 1023, 1025, base, base+4, top) {
			if heap != s.Heap {
				checks(t, api.Space{Regions: s.Regions, Heap: heap}, api.ErrArg)
			}
		}
	}
	for n := 1025; n <= base; n += 1000 {
		checks(t, made(n, base, n, 3), api.ErrArg)
		checks(t, made(1024, base, n, 3), api.ErrArg)
	}
	checks(t, made(1025, base, 1025, 3), api.ErrArg)
	checks(t, made(base, base, base, 3), api.ErrArg)
}

func TestP21_1WrongSpaces(t *testing.T) {
	for want, l := range wrongSpaces() {
		for _, s := range l {
			checks(t, s, want)
		}
	}
}

// Regions that are too many are told ahead of those that may not be, and of a heap that may not be.
func TestP21_1TooMany(t *testing.T) {
	long := spaced(1025).space()
	checks(t, long, api.ErrMany)
	checks(t, api.Space{Regions: long.Regions[1:]}, api.OK)
	checks(t, api.Space{Regions: long.Regions[1:], Heap: 1}, api.ErrArg)
	for _, heap := range far() {
		checks(t, api.Space{Regions: long.Regions, Heap: heap}, api.ErrMany)
		checks(t, api.Space{Regions: make([]api.Region, 1025), Heap: heap}, api.ErrMany)
		checks(t, api.Space{Regions: make([]api.Region, 1024), Heap: heap}, api.ErrArg)
	}
	checks(t, spaced(1024).long(1).space(), api.ErrMany)
	checks(t, spaced(1023).long(1).space(), api.OK)
	checks(t, crowded(1024).long(1).space(), api.OK)
}

// An address space that may not be is told ahead of all else: of arguments that may not be, of pages that are mapped or not, of too many spaces but theirs.
func TestP21_1AllOthersTellItFirst(t *testing.T) {
	for want, l := range wrongSpaces() {
		for _, s := range l {
			for _, page := range []int{0, 1, 5, 9, base - 1, base, -1, top, math.MaxInt, math.MinInt} {
				for _, n := range []int{1, 2, 64, 0, -1, 65, math.MaxInt} {
					refuses(t, s, page, n, 1, want)
					refuses(t, s, page, n, 2, want)
				}
			}
		}
	}
}

// P21.2

func TestP21_2Examples(t *testing.T) {
	answers(t, four(), call{toMap, 0, 3, 1}, made(4, 1, 2, 3, 3, 3, 1, base, 4, 3), 3, api.OK)
	answers(t, four(), call{toMap, 5, 1, 3}, made(4, 1, 2, 3, 5, 1, 3, base, 4, 3), 5, api.OK)
	answers(t, four(), call{toMap, 2, 1, 3}, api.Space{}, 0, api.ErrBusy)
	answers(t, four(), call{toMap, base, 1, 3}, api.Space{}, 0, api.ErrArg)
	answers(t, four(), call{toMap, 9, 65, 1}, api.Space{}, 0, api.ErrArg)
	answers(t, four(), call{toMap, base - 1, 1, 3}, made(4, 1, 2, 3, base-1, 5, 3), base-1, api.OK)
	answers(t, api.Space{}, call{toMap, 0, 64, 0}, made(0, 1, 64, 0), 1, api.OK)
}

// about are the pages at which calls of small address spaces begin.
func about() []int { return []int{1, 2, 3, 4, base - 3, base - 2, base - 1} }

func TestP21_2EachMap(t *testing.T) {
	number := 0
	each(func(p plain) {
		for _, page := range append(about(), 0) {
			for n := 1; n <= 3; n++ {
				number++
				goes(t, p, call{toMap, page, n, uint8(perms()[number%3])})
			}
		}
	})
}

func TestP21_2EachPermission(t *testing.T) {
	for perm := range 256 {
		for _, page := range []int{0, 3, 9, base - 1} {
			goes(t, empty().with(1, 2, 3).long(4), call{toMap, page, 1, uint8(perm)})
		}
	}
}

func TestP21_2Ends(t *testing.T) {
	for n := 1; n <= 64; n++ {
		for _, page := range []int{0, 1, 2, base - 64, base - n - 1, base - n, base - n + 1, base - 1} {
			for _, heap := range []int{0, 1, 1024} {
				goes(t, empty().long(heap), call{toMap, page, n, 3})
				goes(t, empty().with(5, 1, 0).long(heap), call{toMap, page, n, 1})
			}
		}
	}
}

// Low pages that are nearly all mapped: only the last ones, or some in their midst, are not.
func TestP21_2TheLastGap(t *testing.T) {
	for free := range 4 {
		for _, page := range []int{1, 7, base / 2, base - 1 - 2*free, base - 1 - free, base - free} {
			p := empty()
			p.rest = 1
			p = p.with(page, free, none).long(2)
			for n := 1; n <= 5; n++ {
				for _, perm := range perms() {
					goes(t, p, call{toMap, 0, n, uint8(perm)})
				}
			}
		}
	}
	answers(t, made(2, 1, base-1, 1, base, 2, 3), call{toMap, 0, 1, 1}, api.Space{}, 0, api.ErrBusy)
	answers(t, made(2, 1, base+1, 3), call{toMap, 0, 1, 1}, api.Space{}, 0, api.ErrBusy)
	answers(t, made(0, 1, base-2, 1), call{toMap, 0, 1, 1}, made(0, 1, base-1, 1), base-1, api.OK)
	answers(t, made(0, 1, base-2, 1), call{toMap, 0, 2, 1}, api.Space{}, 0, api.ErrBusy)
	answers(t, made(0, 2, base-2, 1), call{toMap, 0, 1, 1}, made(0, 1, base-1, 1), 1, api.OK)
}

// Arguments that may not be are told ahead of pages that are mapped, of gaps that there are not, and of too many regions.
func TestP21_2WrongNumbers(t *testing.T) {
	for _, s := range []api.Space{{}, four(), made(0, 1, base-1, 3), spaced(1024).space(), crowded(1024).space()} {
		for _, x := range wrongLows() {
			if x.page == 0 {
				t.Fatal("the page 0 is anywhere")
			}
			answers(t, s, call{toMap, x.page, x.n, 1}, api.Space{}, 0, api.ErrArg)
		}
		for _, n := range wrongCounts() {
			answers(t, s, call{toMap, 0, n, 1}, api.Space{}, 0, api.ErrArg)
		}
		for _, perm := range wrongPerms() {
			for _, page := range []int{0, 1, 5, 3000, base - 1} {
				answers(t, s, call{toMap, page, 1, perm}, api.Space{}, 0, api.ErrArg)
			}
		}
	}
}

// Of as many regions as there may be: what makes more is ErrMany, what does not is done, and what is mapped is told ahead.
func TestP21_2TooMany(t *testing.T) {
	seen := map[api.Errno]int{}
	for _, p := range []plain{spaced(1024), spaced(1023), spaced(1023).long(7), spaced(1022).long(7), crowded(1024), crowded(1024).long(9), crowded(1023)} {
		for i := range 60 {
			page := 1 + i
			if i >= 40 {
				page = []int{2030, base - 3 - 3*1024}[i%2] + i
			}
			_, e := goes(t, p, call{toMap, page, 1 + i%2, uint8(perms()[i/3%3])})
			seen[e]++
		}
		for _, perm := range perms() {
			for n := 1; n <= 3; n++ {
				_, e := goes(t, p, call{toMap, 0, n, uint8(perm)})
				seen[e]++
			}
		}
	}
	if seen[api.OK] < 50 || seen[api.ErrMany] < 50 || seen[api.ErrBusy] < 50 {
		t.Fatalf("seen: %d", seen)
	}
}

// The lowest gap is taken, even where a higher one would leave fewer regions.
func TestP21_2TheLowestGapIsTooMany(t *testing.T) {
	p := spaced(1024)
	p = p.with(1, 3, none).with(1, 1, 1).with(4, 1, 3) // 1024 regions: 1, 4, 6, ..
	goes(t, p, call{toMap, 0, 1, 1})
	_, e := goes(t, p, call{toMap, 0, 1, 0})
	if e != api.ErrMany {
		t.Fatalf("%d", e)
	}
}

// P21.3

func TestP21_3Examples(t *testing.T) {
	answers(t, four(), call{kind: toUnmap, page: 2, n: 9}, made(4, 1, 1, 3, base, 4, 3), 0, api.OK)
	answers(t, four(), call{kind: toUnmap, page: 0, n: 1}, api.Space{}, 0, api.ErrArg)
	answers(t, four(), call{kind: toUnmap, page: base - 8, n: 9}, api.Space{}, 0, api.ErrArg)
	answers(t, four(), call{toProtect, 1, 1, 0}, made(4, 1, 1, 0, 2, 1, 3, base, 4, 3), 0, api.OK)
	answers(t, four(), call{toProtect, 1, 3, 0}, api.Space{}, 0, api.ErrFault)
	answers(t, four(), call{kind: toUnmap, page: 1, n: 64}, made(4, base, 4, 3), 0, api.OK)
	answers(t, made(4, base-1, 5, 3), call{toProtect, base - 1, 1, 1}, made(4, base-1, 1, 1, base, 4, 3), 0, api.OK)
	answers(t, made(4, base-1, 5, 3), call{kind: toUnmap, page: base - 1, n: 1}, made(4, base, 4, 3), 0, api.OK)
}

func TestP21_3EachUnmap(t *testing.T) {
	each(func(p plain) {
		for _, page := range append(about(), 0) {
			for n := 1; n <= 3; n++ {
				goes(t, p, call{kind: toUnmap, page: page, n: n, perm: 77})
			}
		}
	})
}

func TestP21_3EachProtect(t *testing.T) {
	number := 0
	each(func(p plain) {
		for _, page := range append(about(), 0) {
			for n := 1; n <= 3; n++ {
				number++
				goes(t, p, call{toProtect, page, n, uint8(perms()[number%3])})
			}
		}
	})
}

func TestP21_3EachPermission(t *testing.T) {
	for perm := range 256 {
		for _, page := range []int{1, 2, 3, base - 1} {
			goes(t, empty().with(1, 2, 3).with(base-1, 1, 3).long(4), call{toProtect, page, 1, uint8(perm)})
		}
	}
}

func TestP21_3Ends(t *testing.T) {
	for _, rest := range []int{none, 0, 1, 3} {
		for n := 1; n <= 64; n++ {
			for _, page := range []int{1, 2, base / 2, base - 64, base - n - 1, base - n, base - n + 1, base - 1} {
				for _, heap := range []int{0, 1, 1024} {
					p := empty().long(heap)
					p.rest = rest
					goes(t, p, call{kind: toUnmap, page: page, n: n})
					goes(t, p, call{toProtect, page, n, 3})
					goes(t, p, call{toProtect, page, n, 1})
				}
			}
		}
	}
}

// Arguments that may not be are told ahead of pages that are not mapped, and of too many regions.
func TestP21_3WrongNumbers(t *testing.T) {
	wrong := append(wrongLows(), lows{0, 1}, lows{0, 64}, lows{0, 0}, lows{0, 65}, lows{0, base})
	for _, s := range []api.Space{{}, four(), made(0, 1, base-1, 3), spaced(1024).space(), crowded(1024).space()} {
		for _, x := range wrong {
			answers(t, s, call{toUnmap, x.page, x.n, 1}, api.Space{}, 0, api.ErrArg)
			answers(t, s, call{toProtect, x.page, x.n, 1}, api.Space{}, 0, api.ErrArg)
			answers(t, s, call{toProtect, x.page, x.n, 2}, api.Space{}, 0, api.ErrArg)
		}
		for _, perm := range wrongPerms() {
			for _, page := range []int{1, 5, 3000, base - 1} {
				answers(t, s, call{toProtect, page, 1, perm}, api.Space{}, 0, api.ErrArg)
			}
		}
	}
}

// Of as many regions as there may be, of which some have three pages: what makes more is ErrMany, what does not is done, and what is not mapped is told ahead.
func TestP21_3TooMany(t *testing.T) {
	seen := map[api.Errno]int{}
	for _, p := range []plain{crowded(1024), crowded(1023), crowded(1022), crowded(1024).long(5), crowded(1023).long(5), crowded(1022).with(base-1, 1, 1).long(5), crowded(1021).with(base-1, 1, 1).long(5)} {
		for i := range 40 {
			page := base - 20 + i
			if i >= 20 {
				page = base - 3*1024 + i - 30
			}
			_, e := goes(t, p, call{kind: toUnmap, page: page, n: 1 + i%3})
			seen[e]++
			_, e = goes(t, p, call{toProtect, page, 1 + i%3, uint8(perms()[i/2%3])})
			seen[e]++
		}
	}
	if seen[api.OK] < 100 || seen[api.ErrMany] < 20 || seen[api.ErrFault] < 20 {
		t.Fatalf("seen: %d", seen)
	}
}

// P21.4

func TestP21_4Examples(t *testing.T) {
	answers(t, four(), call{kind: toBrk, n: 0}, made(0, 1, 2, 3), 0, api.OK)
	answers(t, four(), call{kind: toBrk, n: 68}, made(68, 1, 2, 3, base, 68, 3), 0, api.OK)
	answers(t, four(), call{kind: toBrk, n: 69}, api.Space{}, 0, api.ErrArg)
	answers(t, four(), call{kind: toBrk, n: -1}, api.Space{}, 0, api.ErrArg)
	answers(t, four(), call{kind: toBrk, n: 4}, four(), 0, api.OK)
	answers(t, api.Space{}, call{kind: toBrk, n: 0}, api.Space{}, 0, api.OK)
	answers(t, api.Space{}, call{kind: toBrk, n: 64}, made(64, base, 64, 3), 0, api.OK)
}

// heaps are lengths around the ends of what a call may do.
func heaps() []int {
	return []int{0, 1, 2, 62, 63, 64, 65, 66, 128, 500, 958, 959, 960, 961, 962, 1022, 1023, 1024}
}

func TestP21_4EachLength(t *testing.T) {
	for i, heap := range heaps() {
		p := empty().long(heap)
		if i%2 == 1 {
			p = p.with(base-1, 1, []int{3, 1, 0}[i/2%3])
		}
		for pages := -70; pages <= 1100; pages++ {
			goes(t, p, call{kind: toBrk, n: pages})
		}
	}
}

func TestP21_4EachSpace(t *testing.T) {
	each(func(p plain) {
		for pages := range 4 {
			goes(t, p, call{kind: toBrk, page: -9, n: pages, perm: 77})
		}
	})
}

func TestP21_4WrongNumbers(t *testing.T) {
	for _, heap := range heaps() {
		for _, p := range []plain{empty(), empty().with(base-1, 1, 3), spaced(1023), crowded(1024)} {
			s := p.long(heap).space()
			for _, pages := range append(far(), 1025, heap+65, heap-65, 1<<32+heap, -heap-1) {
				answers(t, s, call{kind: toBrk, n: pages}, api.Space{}, 0, api.ErrArg)
			}
		}
	}
	answers(t, spaced(1024).space(), call{kind: toBrk, n: 65}, api.Space{}, 0, api.ErrArg)
}

// Of as many low regions as there may be: a heap behind them is one more, unless the last one has its permission and ends there.
func TestP21_4TooMany(t *testing.T) {
	seen := map[api.Errno]int{}
	for _, p := range []plain{spaced(1024), spaced(1023), crowded(1024), crowded(1024).with(base-1, 1, none), crowded(1023).with(base-1, 1, 1), crowded(1022).with(base-1, 1, 1), crowded(1024).with(base-3, 3, 1)} {
		for _, heap := range []int{0, 5, 100} {
			if len(p.long(heap).space().Regions) > 1024 {
				continue
			}
			for _, pages := range []int{0, 1, 5, 60, 64, 65, 69, 70, 100, 164} {
				_, e := goes(t, p.long(heap), call{kind: toBrk, n: pages})
				seen[e]++
			}
		}
	}
	if seen[api.OK] < 30 || seen[api.ErrMany] < 8 {
		t.Fatalf("seen: %d", seen)
	}
}

// P21.5

func accesses(t *testing.T, s api.Space, va uint64, size int, write bool, want api.Errno) {
	t.Helper()
	keeps(t, s, func(s api.Space) {
		if e := space.Access(s, va, size, write); e != want {
			t.Fatalf("Access(%s, %d, %d, %v) = %d; want %d", brief(s), va, size, write, e, want)
		}
	})
}

func TestP21_5Examples(t *testing.T) {
	accesses(t, four(), 256, 8, true, api.OK)
	accesses(t, four(), 0, 1, false, api.ErrFault)
	accesses(t, four(), 1<<27, 4, true, api.OK)
	accesses(t, four(), 255, 2, false, api.ErrArg)
	accesses(t, four(), 1<<28, 1, false, api.ErrAddr)
}

// access is what the document says of bytes of a page that may be.
func (p plain) access(page int, write bool) api.Errno {
	perm := p.at(page)
	switch {
	case perm == none:
		return api.ErrFault
	case perm == 3, perm == 1 && !write:
		return api.OK
	}
	return api.ErrPerm
}

func TestP21_5EachPage(t *testing.T) {
	each(func(p plain) {
		s := p.space()
		for _, page := range append(about(), 0, base, base+1, base+2, base+3, top-1, base/2) {
			for _, write := range []bool{false, true} {
				accesses(t, s, uint64(page)*256, 1, write, p.access(page, write))
				accesses(t, s, uint64(page)*256+248, 8, write, p.access(page, write))
			}
		}
	})
}

func TestP21_5EachSize(t *testing.T) {
	s := made(2, 1, 1, 1, 2, 1, 3, 4, 1, 0, base, 2, 3)
	p := empty().with(1, 1, 1).with(2, 1, 3).with(4, 1, 0).long(2)
	for _, page := range []int{0, 1, 2, 3, 4, base - 1, base, base + 1, base + 2, top - 1} {
		for off := range 256 {
			for size := -1; size <= 9; size++ {
				for _, write := range []bool{false, true} {
					want := api.ErrArg
					if size >= 1 && size <= 8 && off+size <= 256 {
						want = p.access(page, write)
					}
					accesses(t, s, uint64(page)*256+uint64(off), size, write, want)
				}
			}
		}
	}
}

// An address that may not be is told ahead of a size that may not be, this one ahead of pages that are not mapped and of permissions.
func TestP21_5WrongNumbers(t *testing.T) {
	for _, s := range []api.Space{{}, four(), made(0, 4, 1, 0), made(0, 1, base-1, 1), made(1024, 1, base+1023, 3), spaced(1024).space()} {
		for _, size := range append(far(), 0, 9, 16, 256, 1, 8) {
			for _, write := range []bool{false, true} {
				for _, va := range []uint64{1 << 28, 1<<28 + 255, 1<<28 + 256, 1 << 29, 1 << 32, 1<<32 + 256, 1 << 36, 1<<63 + 256, math.MaxUint64, math.MaxUint64 - 255, math.MaxUint64 - 1<<28} {
					accesses(t, s, va, size, write, api.ErrAddr)
				}
				if size == 1 || size == 8 {
					continue
				}
				for _, va := range []uint64{0, 255, 256, 1024, 4 * 256, 1 << 27, 1<<28 - 1, 1<<28 - 256} {
					accesses(t, s, va, size, write, api.ErrArg)
				}
			}
		}
	}
}

func TestP21_5ManyRegions(t *testing.T) {
	p := spaced(1023).long(1024)
	s := p.space()
	for page := range 2060 {
		accesses(t, s, uint64(page)*256+7, 5, page%2 == 0, p.access(page, page%2 == 0))
	}
	for page := base - 2; page < base+1030; page++ {
		accesses(t, s, uint64(page)*256+7, 5, true, p.access(page, true))
	}
}

// P21.6

// tables are counted page by page: the root, and each table with an entry of one of the pages.
func tables(s api.Space) int {
	seen := map[[2]int]bool{}
	for _, r := range s.Regions {
		for i := range r.N {
			seen[[2]int{0, (r.Page + i) / 32}] = true
			seen[[2]int{1, (r.Page + i) / 1024}] = true
			seen[[2]int{2, (r.Page + i) / 32768}] = true
		}
	}
	return 1 + len(seen)
}

func pages(s api.Space) int {
	n := 0
	for _, r := range s.Regions {
		n += r.N
	}
	return n
}

// wants is what an address space needs.
func wants(s api.Space) api.Needs {
	return api.Needs{Spaces: 1, Pages: pages(s), Tables: tables(s), Regions: len(s.Regions)}
}

func needs(t *testing.T, s api.Space, want api.Needs) {
	t.Helper()
	keeps(t, s, func(s api.Space) {
		if got, e := space.Needs(s); got != want || e != api.OK {
			t.Fatalf("Needs(%s) = %v, %d; want %v", brief(s), got, e, want)
		}
	})
}

func sums(t *testing.T, l []api.Space, want api.Needs, wanted api.Errno) {
	t.Helper()
	got, e := space.Sum(l...)
	if got != want || e != wanted {
		t.Fatalf("Sum of %d = %v, %d; want %v, %d", len(l), got, e, want, wanted)
	}
}

func TestP21_6Examples(t *testing.T) {
	needs(t, four(), api.Needs{Spaces: 1, Pages: 6, Tables: 7, Regions: 2})
	sums(t, []api.Space{four(), four()}, api.Needs{Spaces: 2, Pages: 12, Tables: 14, Regions: 4}, api.OK)
	sums(t, nil, api.Needs{}, api.OK)
	sums(t, []api.Space{}, api.Needs{}, api.OK)
	needs(t, api.Space{}, api.Needs{Spaces: 1, Tables: 1})
	sums(t, []api.Space{{}, {}}, api.Needs{Spaces: 2, Tables: 2}, api.OK)
}

func TestP21_6Each(t *testing.T) {
	each(func(p plain) {
		if p.rest != none {
			return
		}
		needs(t, p.space(), wants(p.space()))
	})
	for _, p := range []plain{spaced(1024), spaced(1023).long(1024), crowded(1024), crowded(1024).long(77), empty().long(1024)} {
		needs(t, p.space(), wants(p.space()))
	}
}

func TestP21_6Ends(t *testing.T) {
	needs(t, made(0, 1, base-1, 1), api.Needs{Spaces: 1, Pages: base - 1, Tables: 1 + 16 + 512 + 16384, Regions: 1})
	needs(t, made(1024, 1, base-1, 1, base, 1024, 3), api.Needs{Spaces: 1, Pages: base + 1023, Tables: 1 + 17 + 513 + 16416, Regions: 2})
	needs(t, made(1024, 1, base+1023, 3), api.Needs{Spaces: 1, Pages: base + 1023, Tables: 1 + 17 + 513 + 16416, Regions: 1})
	all := make([]api.Space, 16)
	for i := range all {
		all[i] = made(1024, 1, base+1023, 3)
	}
	sums(t, all, api.Needs{Spaces: 16, Pages: 16 * (base + 1023), Tables: 16 * (1 + 17 + 513 + 16416), Regions: 16}, api.OK)
	far := empty()
	for i := range 1024 {
		far = far.with(1+i*512, 1, 1)
	}
	needs(t, far.space(), api.Needs{Spaces: 1, Pages: 1024, Tables: 1 + 16 + 512 + 1024, Regions: 1024})
}

// several are so many address spaces that differ.
func several(n int) []api.Space {
	d := dice(2106)
	var l []api.Space
	for range n {
		p := empty().long(d.below(70))
		for range d.below(6) {
			page, count := 1+d.below(3000), 1+d.below(64)
			p = p.with(page, count, int(d.perm()))
		}
		l = append(l, p.space())
	}
	return l
}

func plus(a, b api.Needs) api.Needs {
	return api.Needs{Spaces: a.Spaces + b.Spaces, Pages: a.Pages + b.Pages, Tables: a.Tables + b.Tables, Regions: a.Regions + b.Regions}
}

func TestP21_6Sums(t *testing.T) {
	all := several(16)
	var want api.Needs
	for i, s := range all {
		sums(t, all[:i], want, api.OK)
		want = plus(want, wants(s))
	}
	sums(t, all, want, api.OK)
}

func TestP21_6TooManySpaces(t *testing.T) {
	wrong := made(1)
	for n := 17; n <= 40; n++ {
		sums(t, make([]api.Space, n), api.Needs{}, api.ErrMany)
		l := several(n)
		sums(t, l, api.Needs{}, api.ErrMany)
		l[n-1-n%3] = wrong
		l[0] = wrong
		sums(t, l, api.Needs{}, api.ErrMany)
	}
	sums(t, make([]api.Space, 16), api.Needs{Spaces: 16, Tables: 16}, api.OK)
	sums(t, make([]api.Space, 1<<16), api.Needs{}, api.ErrMany)
}

// Of several that may not be the first one's error is told.
func TestP21_6TheFirstWrongOne(t *testing.T) {
	long := spaced(1025).space()
	for at := range 16 {
		for _, first := range []struct {
			s, later api.Space
			want     api.Errno
		}{{long, made(1), api.ErrMany}, {made(1), long, api.ErrArg}} {
			l := several(16)
			l[at] = first.s
			for later := at + 1; later < 16; later++ {
				l[later] = first.later
			}
			sums(t, l, api.Needs{}, first.want)
			sums(t, l[:at+1], api.Needs{}, first.want)
		}
	}
}

// P21.7

// usual is chapter 11's configuration.
func usual() api.Config {
	return api.Config{
		Frames: 64, Colours: 4, Ways: 2, L1Sets: 4, L1Ways: 2, TLB: 4,
		Costs: api.Costs{L1: 1, LLC: 4, Miss: 10, Fault: 5, Step: 1, Disk: 20},
		Slice: 4000, Pad: 20, Turns: []int{0, 1},
		Parts: []api.Part{
			{Colours: []int{0, 1}, Order: 1, User: 4, Tables: 8, Spaces: 1, Regions: 1, Records: 1, Slots: 3},
			{Colours: []int{2}, User: 2, Tables: 6, Spaces: 1, Regions: 1, Records: 1, Slots: 3},
		},
	}
}

// greatest has eight partitions, of which no two have the same quotas; of the first ones the records are too few for all frames and slots.
func greatest() api.Config {
	c := api.Config{
		Frames: 4096, Colours: 16, Ways: 16, L1Sets: 4096, L1Ways: 16, TLB: 64,
		Costs: api.Costs{L1: 1, LLC: 10, Miss: 400, Fault: 65536, Step: 63, Disk: 65536},
		Slice: 1 << 22, Pad: 1 << 22, First: 1<<40 - 1, Turns: []int{0},
	}
	for p := range 8 {
		c.Parts = append(c.Parts, api.Part{Colours: []int{p, p + 8}, Order: p % 4, User: 200 + p, Tables: 100 - p, Spaces: 1 + p, Regions: 50 - 2*p, Records: 4 + 4*p, Slots: 90 + p})
	}
	return c
}

// room is the most that a partition has of each number.
func room(c api.Config, p int) api.Needs {
	part := c.Parts[p]
	return api.Needs{Spaces: min(16, 4*part.Spaces), Pages: min(part.User+part.Slots-1, 16*part.Records), Tables: part.Tables, Regions: 8 * part.Regions}
}

// numbers are fields, so that each of them can be set alone.
func numbers(n *api.Needs) []*int { return []*int{&n.Spaces, &n.Pages, &n.Tables, &n.Regions} }

func fits(t *testing.T, c api.Config, p int, n api.Needs, want bool, wanted api.Errno) {
	t.Helper()
	if is, e := space.Fits(c, p, n); is != want || e != wanted {
		t.Fatalf("Fits(.., %d, %v) = %v, %d; want %v, %d", p, n, is, e, want, wanted)
	}
}

func TestP21_7Examples(t *testing.T) {
	c := usual()
	fits(t, c, 0, api.Needs{Spaces: 4, Pages: 6, Tables: 8, Regions: 8}, true, api.OK)
	fits(t, c, 0, api.Needs{Spaces: 5, Pages: 6, Tables: 8, Regions: 8}, false, api.OK)
	fits(t, c, 0, api.Needs{Spaces: 4, Pages: 7, Tables: 8, Regions: 8}, false, api.OK)
	fits(t, c, 2, api.Needs{Spaces: 4, Pages: 6, Tables: 8, Regions: 8}, false, api.ErrPart)
	fits(t, c, 0, api.Needs{Spaces: -1}, false, api.ErrArg)
}

func configs() []api.Config {
	many := greatest()
	many.Parts = many.Parts[:1]
	many.Parts[0].Colours = []int{0, 1, 2, 3, 4, 5, 6, 7, 8, 9, 10, 11, 12, 13, 14, 15}
	many.Parts[0].Spaces, many.Parts[0].Regions, many.Parts[0].Records = 1000, 500, 10
	return []api.Config{usual(), greatest(), many}
}

// Each number by itself may be as great as there is room for, and no greater.
func TestP21_7EachNumber(t *testing.T) {
	for _, c := range configs() {
		for p := range c.Parts {
			most := room(c, p)
			fits(t, c, p, most, true, api.OK)
			fits(t, c, p, api.Needs{}, true, api.OK)
			for i := range 4 {
				for _, n := range []api.Needs{most, {}} {
					x := numbers(&n)[i]
					*x = *numbers(&most)[i]
					fits(t, c, p, n, true, api.OK)
					*x--
					fits(t, c, p, n, true, api.OK)
					for _, more := range []int{1, 2, 3, 1000, 1 << 31, 1 << 32, 1 << 60, 1 << 61, 1 << 62} {
						*x = *numbers(&most)[i] + more
						fits(t, c, p, n, false, api.OK)
					}
					*x = math.MaxInt
					fits(t, c, p, n, false, api.OK)
				}
			}
		}
	}
}

// At most 16 processes, however many address spaces there are frames for.
func TestP21_7Processes(t *testing.T) {
	for p, want := range []int{4, 8, 12, 16, 16, 16, 16, 16} {
		for n := range 40 {
			fits(t, greatest(), p, api.Needs{Spaces: n}, n <= want, api.OK)
		}
	}
}

func TestP21_7WrongNumbers(t *testing.T) {
	for _, c := range configs() {
		for i := range 4 {
			for _, x := range far() {
				if x > 0 {
					continue
				}
				for _, n := range []api.Needs{{}, room(c, 0), {Spaces: 99, Pages: 9999, Tables: 9999, Regions: 9999}} {
					*numbers(&n)[i] = x
					fits(t, c, 0, n, false, api.ErrArg)
				}
			}
		}
	}
}

// A configuration that may not be is told first, then a partition that there is not, then numbers that may not be.
func TestP21_7OrderOfErrors(t *testing.T) {
	wrong := []api.Config{{}, usual(), usual(), usual(), usual()}
	wrong[1].Pad = 11
	wrong[2].Parts[1].Colours[0] = 1
	wrong[3].Parts[0].Tables = 3
	wrong[4].Turns = nil
	for _, p := range append(far(), 0, 1, 2, 8) {
		for _, n := range []api.Needs{{}, {Spaces: 1}, {Pages: -1}, {Spaces: -1, Pages: -1, Tables: -1, Regions: -1}, {Regions: 9999}} {
			for _, c := range wrong {
				fits(t, c, p, n, false, api.ErrPlan)
			}
			if p < 0 || p >= 2 {
				fits(t, usual(), p, n, false, api.ErrPart)
			}
			if p < 0 || p >= 8 {
				fits(t, greatest(), p, n, false, api.ErrPart)
			}
		}
	}
}

// P21.8

// spoil writes over a list, its spare room too.
func spoil[T any](l []T) {
	l = l[:cap(l)]
	clear(l)
}

// some are calls that are done of most address spaces, among them those that change nothing.
func some() []call {
	return []call{{toMap, 0, 1, 1}, {toMap, 9, 2, 1}, {toMap, base - 9, 2, 3}, {kind: toUnmap, page: 100, n: 9}, {kind: toUnmap, page: 1, n: 1}, {kind: toUnmap, page: 2, n: 1}, {toProtect, 1, 1, 1}, {toProtect, 1, 1, 3}, {toProtect, 2, 1, 3}, {kind: toBrk, n: 0}, {kind: toBrk, n: 3}, {kind: toBrk, n: 4}, {kind: toBrk, n: 5}}
}

// What is answered is spoiled: what was handed in, its spare room, and what was answered beside it stay.
func TestP21_8NewMemory(t *testing.T) {
	all := func(s api.Space) []api.Space {
		var l []api.Space
		for _, c := range some() {
			got, _, e := c.ask(s)
			if e != api.OK {
				t.Fatalf("%+v of %v: %d", c, s, e)
			}
			l = append(l, got)
		}
		return l
	}
	for _, s := range []api.Space{four(), made(0, 1, 3, 3), made(4, 1, 1, 3, 2, 1, 1, 5, 1, 0, base-1, 5, 3), made(2, 1, 2, 1, base, 2, 3)} {
		keeps(t, s, func(s api.Space) {
			got, want := all(s), all(s)
			for i := range got {
				if len(got[i].Regions) > 0 && &got[i].Regions[0] == &s.Regions[0] {
					t.Fatalf("the answer %d has the list that was handed in", i)
				}
				spoil(got[i].Regions)
				for k := i + 1; k < len(got); k++ {
					if !same(got[k], want[k]) {
						t.Fatalf("the answers %d and %d share memory", i, k)
					}
				}
			}
			if again := all(s); !slices.EqualFunc(again, want, same) {
				t.Fatalf("%v became %v", want, again)
			}
		})
	}
}

// What is handed in is spoiled: what was answered stays.
func TestP21_8NotKept(t *testing.T) {
	each(func(p plain) {
		for i, c := range some() {
			next, _, e := c.plain(p)
			if e != api.OK {
				continue
			}
			s := p.space()
			s.Regions = slices.Grow(s.Regions, i%5)
			got, _, _ := c.ask(s)
			spoil(s.Regions)
			if !same(got, next.space()) {
				t.Fatalf("%+v: %v; want %v", c, got, next.space())
			}
		}
	})
}

func TestP21_8OnlyRead(t *testing.T) {
	l := several(12)
	long := append(slices.Clone(l), several(4)...)
	want := make([]api.Space, len(long))
	for i, s := range long {
		want[i] = api.Space{Regions: slices.Clone(s.Regions), Heap: s.Heap}
	}
	space.Sum(long[:12]...)
	space.Sum(long...)
	if !slices.EqualFunc(long, want, same) {
		t.Fatalf("%v became %v", want, long)
	}
	c := greatest()
	space.Fits(c, 3, api.Needs{Spaces: 2})
	for p, part := range greatest().Parts {
		if got := c.Parts[p]; !slices.Equal(got.Colours, part.Colours) || got.Tables != part.Tables || got.Spaces != part.Spaces {
			t.Fatalf("the partition %d became %v", p, got)
		}
	}
}

// P21.9

// perm is what Check and Access tell of a page: whether it may be loaded, and stored.
func perm(t *testing.T, s api.Space, page int) int {
	t.Helper()
	load, store := space.Access(s, uint64(page)*256, 1, false), space.Access(s, uint64(page)*256, 1, true)
	switch {
	case load == api.ErrFault && store == api.ErrFault:
		return none
	case load == api.ErrPerm && store == api.ErrPerm:
		return 0
	case load == api.OK && store == api.ErrPerm:
		return 1
	case load == api.OK && store == api.OK:
		return 3
	}
	t.Fatalf("page %d: %d, %d", page, load, store)
	return none
}

// Behind each call each page is as it was asked for, or as before.
func TestP21_9EachPage(t *testing.T) {
	number := 0
	each(func(p plain) {
		number++
		if p.rest != none && number%7 > 0 {
			return
		}
		s := p.space()
		for kind := toMap; kind <= toBrk; kind++ {
			number++
			c := call{kind, about()[number%7], 1 + number/7%3, uint8(perms()[number%3])}
			got, _, e := c.ask(s)
			if e != api.OK {
				continue
			}
			if e := space.Check(got); e != api.OK {
				t.Fatalf("%+v of %v: %v may not be: %d", c, s, got, e)
			}
			for _, page := range append(about(), 5, 6, base, base+1, base+2, base+3) {
				want := p.at(page)
				asked := kind != toBrk && page >= c.page && page < c.page+c.n
				switch {
				case asked && kind == toUnmap:
					want = none
				case asked:
					want = int(c.perm)
				case kind == toBrk && page >= base && page < base+c.n:
					want = 3
				case kind == toBrk && page >= base:
					want = none
				}
				if is := perm(t, got, page); is != want {
					t.Fatalf("%+v of %v: the page %d is as %d; want %d", c, s, page, is, want)
				}
			}
		}
	})
}

// Unmap of what was mapped is what was there, and a heap comes back to its length.
func TestP21_9ThereAndBack(t *testing.T) {
	number := 0
	back := func(p plain) {
		s := p.space()
		for _, page := range append(about(), 0, 4) {
			number++
			n := 1 + number%3
			more, at, e := space.Map(s, page, n, uint8(perms()[number/3%3]))
			if e == api.OK {
				answers(t, more, call{kind: toUnmap, page: at, n: n}, s, 0, api.OK)
			}
		}
		for _, heap := range []int{0, p.heap + 1, p.heap + 64} {
			other, e := space.Brk(s, heap)
			if e == api.OK {
				answers(t, other, call{kind: toBrk, n: p.heap}, s, 0, api.OK)
			}
		}
	}
	each(back)
	for _, p := range []plain{spaced(1023), spaced(1022).long(9), crowded(1024), crowded(1024).long(64), crowded(1000)} {
		back(p)
	}
}

// A plain one and the program go together, through calls by chance, where pages meet one another and the heap; what is refused leaves both as they were.
func TestP21_9ByChance(t *testing.T) {
	d := dice(2109)
	seen := map[api.Errno]int{}
	for range 40 {
		p := empty()
		for range 150 {
			page := []int{0, 1 + d.below(200), 1 + d.below(30), base - 1 - d.below(150), base - 1 - d.below(20), base/2 + d.below(40)}[d.below(6)]
			c := call{d.below(4), page, 1 + d.below(1+d.below(66)), d.perm()}
			if c.kind == toBrk {
				c.n = p.heap + d.below(140) - 68
			}
			next, e := goes(t, p, c)
			seen[e]++
			p = next
		}
	}
	for _, e := range []api.Errno{api.OK, api.ErrArg, api.ErrBusy, api.ErrFault} {
		if seen[e] < 300 {
			t.Fatalf("seen: %d", seen)
		}
	}
}

// Many regions, about as many as there may be, through calls by chance.
func TestP21_9ManyByChance(t *testing.T) {
	d := dice(2110)
	seen := map[api.Errno]int{}
	for _, p := range []plain{spaced(1023), crowded(1023), crowded(1021).long(3)} {
		first := slices.Min(p.points()[1:])
		for range 160 {
			page := []int{first + d.below(2000), first + d.below(50), base - 1 - d.below(90), 0}[d.below(4)]
			c := call{d.below(4), page, 1 + d.below(3), d.perm()}
			if c.kind == toBrk {
				c.n = max(0, p.heap+d.below(5)-2) * d.below(5)
			}
			next, e := goes(t, p, c)
			seen[e]++
			p = next
		}
	}
	for _, e := range []api.Errno{api.OK, api.ErrBusy, api.ErrFault, api.ErrMany} {
		if seen[e] < 20 {
			t.Fatalf("seen: %d", seen)
		}
	}
}

// P21.10

func TestP21_10StoredIsLoaded(t *testing.T) {
	stored := 0
	each(func(p plain) {
		s := p.space()
		for _, page := range append(about(), 0, base, base+1, base+2, top-1, top) {
			for _, off := range []int{0, 100, 252, 255} {
				for _, size := range []int{0, 1, 4, 8, 9} {
					va := uint64(page*256 + off)
					if space.Access(s, va, size, true) != api.OK {
						continue
					}
					stored++
					if e := space.Access(s, va, size, false); e != api.OK {
						t.Fatalf("%v: what is stored at %d is not loaded: %d", s, va, e)
					}
				}
			}
		}
	})
	if stored < 10000 {
		t.Fatalf("only %d were stored", stored)
	}
}

// less says whether no number of a is greater than b's.
func less(a, b api.Needs) bool {
	return a.Spaces <= b.Spaces && a.Pages <= b.Pages && a.Tables <= b.Tables && a.Regions <= b.Regions
}

func TestP21_10SumInAnyOrder(t *testing.T) {
	d := dice(2110)
	for n := range 17 {
		l := several(n)
		want, e := space.Sum(l...)
		if e != api.OK {
			t.Fatalf("%d", e)
		}
		for range 20 {
			for i := range l {
				k := d.below(i + 1)
				l[i], l[k] = l[k], l[i]
			}
			sums(t, l, want, api.OK)
		}
		for i := range l {
			if fewer, _ := space.Sum(l[:i]...); !less(fewer, want) {
				t.Fatalf("%d of %d need %v, all %v", i, n, fewer, want)
			}
			if fewer, _ := space.Sum(l[i:]...); !less(fewer, want) {
				t.Fatalf("%d of %d need %v, all %v", n-i, n, fewer, want)
			}
		}
	}
}

func TestP21_10LessFits(t *testing.T) {
	d := dice(2111)
	for _, c := range configs() {
		for p := range c.Parts {
			most := room(c, p)
			for range 300 {
				n, fewer := most, most
				for i := range 4 {
					x := d.below(*numbers(&most)[i] + 2)
					*numbers(&n)[i] = x
					*numbers(&fewer)[i] = d.below(x + 1)
				}
				fits(t, c, p, n, less(n, most), api.OK)
				if is, _ := space.Fits(c, p, n); is {
					fits(t, c, p, fewer, true, api.OK)
				}
			}
		}
	}
}

// P21.11

// most is the greatest and the least of what a kind of call made more of a number.
type most struct{ pages, tables, regions, fewest int }

// grows does a call and holds what is needed then against what was needed before.
func grows(t *testing.T, s api.Space, c call, seen *most) api.Space {
	t.Helper()
	next, _, e := c.ask(s)
	if e != api.OK {
		return s
	}
	before, a := space.Needs(s)
	after, b := space.Needs(next)
	if a != api.OK || b != api.OK {
		t.Fatalf("%v, %v: %d, %d", s, next, a, b)
	}
	pages, tables, regions := after.Pages-before.Pages, after.Tables-before.Tables, after.Regions-before.Regions
	may := after.Spaces == 1
	switch c.kind {
	case toMap:
		may = may && pages == c.n && tables >= 0 && tables <= 7 && regions >= -1 && regions <= 1
	case toUnmap:
		may = may && pages <= 0 && pages >= -c.n && tables <= 0 && regions <= 1
	case toProtect:
		may = may && pages == 0 && tables == 0 && regions <= 2
	case toBrk:
		may = may && pages == c.n-s.Heap && tables <= 7 && tables >= -7 && regions >= -1 && regions <= 1
	}
	if !may {
		t.Fatalf("%+v of %v: %v became %v", c, s, before, after)
	}
	seen.pages, seen.tables, seen.regions = max(seen.pages, pages), max(seen.tables, tables), max(seen.regions, regions)
	seen.fewest = min(seen.fewest, regions)
	return next
}

func TestP21_11Needs(t *testing.T) {
	var seen [4]most
	number := 0
	each(func(p plain) {
		if p.rest != none {
			return
		}
		s := p.space()
		for kind := range seen {
			for range 4 {
				number++
				grows(t, s, call{kind, append(about(), 0)[number%8], 1 + number/8%3, uint8(perms()[number%3])}, &seen[kind])
			}
		}
	})
	d := dice(2112)
	for range 60 {
		var s api.Space
		for range 100 {
			page := []int{0, 32768*(1+d.below(15)) - d.below(64), 1024*(1+d.below(500)) - d.below(64), 1 + d.below(300), base - 1 - d.below(70)}[d.below(5)]
			c := call{d.below(4), page, 1 + d.below(64), d.perm()}
			if c.kind == toBrk {
				c.n = s.Heap + d.below(129) - 64
			}
			s = grows(t, s, c, &seen[c.kind])
		}
	}
	want := [4]most{{64, 7, 1, -1}, {0, 0, 1, seen[toUnmap].fewest}, {0, 0, 2, seen[toProtect].fewest}, {64, seen[toBrk].tables, 1, -1}}
	if seen != want {
		t.Fatalf("the most that was seen: %v; want %v", seen, want)
	}
}
