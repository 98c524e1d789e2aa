package vma_test

import (
	"math"
	"slices"
	"testing"

	"cofferdam/api"
	"cofferdam/vma"
)

// two is the list of the document's examples.
func two() []api.Region { return regions(5, 3, 1, 10, 2, 3) }

// regions are told by three numbers each: Page, N, Perm.
func regions(x ...int) []api.Region {
	var l []api.Region
	for ; len(x) > 0; x = x[3:] {
		l = append(l, region(x[0], x[1], x[2]))
	}
	return l
}

func region(page, n, perm int) api.Region { return api.Region{Page: page, N: n, Perm: uint8(perm)} }

func span(page, n int) api.Span { return api.Span{Page: page, N: n} }

// spans are told by two numbers each: Page, N.
func spans(x ...int) []api.Span {
	var l []api.Span
	for ; len(x) > 0; x = x[2:] {
		l = append(l, span(x[0], x[1]))
	}
	return l
}

// perms are those that a region may have.
func perms() []uint8 { return []uint8{0, 1, 3} }

// far are numbers that are far outside; some of them wrap round to small ones, if they are added to a page.
func far() []int {
	l := []int{-1, -2, -256, -1 << 20, 1<<20 + 1, 1 << 21, 1 << 31, 1<<31 - 1, 1 << 32, 1<<32 + 1, -1 << 32}
	return append(l, 1<<62, -1<<62, math.MaxInt, math.MaxInt-1, math.MaxInt-1<<20, math.MinInt, math.MinInt+1, math.MinInt+1<<20)
}

// wrongSpans are pages that may not be.
func wrongSpans() []api.Span {
	l := spans(0, 0, 0, 1, 0, 9, 1, 0, 5, 0, -1, 2, -1, 9, 5, -1, 1, 1<<20, 2, 1<<20-1, 1<<20-1, 2, 1<<20, 1, 1<<20, 0, 1<<19, 1<<19+1)
	for _, x := range far() {
		l = append(l, span(x, 1), span(x, 5), span(x, 0), span(x, -x), span(x, 5-x))
		if x < 0 || x >= 1<<20 {
			l = append(l, span(1, x), span(5, x), span(1<<20-1, x))
		}
	}
	return l
}

// dice are numbers that look like chance, the same ones in each run.
type dice uint64

func (d *dice) below(n int) int {
	*d = *d*6364136223846793005 + 1442695040888963407
	return int(uint64(*d) >> 33 % uint64(n))
}

func (d *dice) perm() uint8 { return perms()[d.below(3)] }

// none is said of a page that is not mapped.
const none = -1

// plain knows of each page by itself whether it is mapped, and with what permission. Its first page has the number first; no other page is mapped.
type plain struct {
	first int
	perms []int
}

func empty(first, n int) plain {
	p := plain{first, make([]int, n)}
	for i := range p.perms {
		p.perms[i] = none
	}
	return p
}

func (p plain) clone() plain { return plain{p.first, slices.Clone(p.perms)} }

// at is a page's permission, or none.
func (p plain) at(page int) int {
	if page < p.first || page >= p.first+len(p.perms) {
		return none
	}
	return p.perms[page-p.first]
}

// with is p with another permission, or none, of a span's pages.
func (p plain) with(s api.Span, perm int) plain {
	p = p.clone()
	for page := max(s.Page, p.first); page < min(s.Page+s.N, p.first+len(p.perms)); page++ {
		p.perms[page-p.first] = perm
	}
	return p
}

// count is how many pages of a span are mapped.
func (p plain) count(s api.Span) int {
	n := 0
	for page := max(s.Page, p.first); page < min(s.Page+s.N, p.first+len(p.perms)); page++ {
		if p.at(page) != none {
			n++
		}
	}
	return n
}

// mapped is how many pages are.
func (p plain) mapped() int { return p.count(span(1, 1<<20-1)) }

// list is p's one form.
func (p plain) list() []api.Region {
	var l []api.Region
	before := none
	for i, perm := range p.perms {
		if perm != none && perm == before {
			l[len(l)-1].N++
		} else if perm != none {
			l = append(l, region(p.first+i, 1, perm))
		}
		before = perm
	}
	return l
}

// form is p's list, or that there are too many regions.
func (p plain) form() ([]api.Region, api.Errno) {
	if l := p.list(); len(l) <= 1024 {
		return l, api.OK
	}
	return nil, api.ErrMany
}

func (p plain) put(r api.Region) ([]api.Region, api.Errno) {
	if p.count(span(r.Page, r.N)) > 0 {
		return nil, api.ErrBusy
	}
	return p.with(span(r.Page, r.N), int(r.Perm)).form()
}

func (p plain) cut(s api.Span) ([]api.Region, api.Errno) { return p.with(s, none).form() }

func (p plain) protect(s api.Span, perm uint8) ([]api.Region, api.Errno) {
	if p.count(s) < s.N {
		return nil, api.ErrFault
	}
	return p.with(s, int(perm)).form()
}

// gap goes from page to page.
func (p plain) gap(n, from, to int) (int, bool) {
	for page := from; page+n <= to; page++ {
		if p.count(span(page, n)) == 0 {
			return page, true
		}
	}
	return 0, false
}

const width = 6

// each calls f with all that few pages can be, at the lower and the upper end of all pages.
func each(f func(p plain)) {
	for _, first := range []int{1, 1<<20 - width} {
		for number := range 1 << (2 * width) {
			p := empty(first, width)
			for i := range p.perms {
				p.perms[i] = []int{none, 0, 1, 3}[number>>(2*i)&3]
			}
			f(p)
		}
	}
}

// eachSpan calls f with all spans of p's pages.
func (p plain) eachSpan(f func(s api.Span)) {
	for i := range p.perms {
		for n := range len(p.perms) - i {
			f(span(p.first+i, n+1))
		}
	}
}

// full has as many regions as there may be, with a page between each two.
func full() plain {
	p := empty(1, 2100)
	for i := range 1024 {
		p.perms[2*i+1] = int(perms()[i%3])
	}
	return p
}

// crowded has as many regions as there may be, of three pages each, with none between.
func crowded() plain {
	p := empty(1, 3*1024+5)
	for i := range 3 * 1024 {
		p.perms[i+2] = int(perms()[i/3%3])
	}
	return p
}

// keeps hands a list in, with spare room, and fails the test unless both are as they were then.
func keeps(t *testing.T, l []api.Region, call func(l []api.Region)) {
	t.Helper()
	var room [2 * width]api.Region
	all := append(room[:0], l...)
	n := len(all)
	all = append(all, region(-7, -8, 9), region(-10, -11, 12))
	call(all[:n])
	if !slices.Equal(all[:n], l) || all[n] != region(-7, -8, 9) || all[n+1] != region(-10, -11, 12) {
		t.Fatalf("%v became %v, its spare room %v", l, all[:n], all[n:])
	}
}

func put(t *testing.T, l []api.Region, r api.Region) (got []api.Region, e api.Errno) {
	t.Helper()
	keeps(t, l, func(l []api.Region) { got, e = vma.Put(l, r) })
	return got, e
}

func cut(t *testing.T, l []api.Region, s api.Span) (got []api.Region, e api.Errno) {
	t.Helper()
	keeps(t, l, func(l []api.Region) { got, e = vma.Cut(l, s) })
	return got, e
}

func protect(t *testing.T, l []api.Region, s api.Span, perm uint8) (got []api.Region, e api.Errno) {
	t.Helper()
	keeps(t, l, func(l []api.Region) { got, e = vma.Protect(l, s, perm) })
	return got, e
}

// answers fails the test unless a call answered what is wanted, and no list beside an error.
func answers(t *testing.T, what string, l []api.Region, args any, got []api.Region, e api.Errno, want []api.Region, wanted api.Errno) {
	t.Helper()
	if e != wanted || !slices.Equal(got, want) {
		t.Fatalf("%s(%v, %v) = %v, %d; want %v, %d", what, l, args, got, e, want, wanted)
	}
}

// well is a list that was answered without an error.
func well(t *testing.T, l []api.Region, e api.Errno) []api.Region {
	t.Helper()
	if e != api.OK {
		t.Fatalf("refused: %d", e)
	}
	return l
}

// refuses fails the test unless every call but Check answers an error and nothing else, whatever stands beside the list.
func refuses(t *testing.T, l []api.Region, r api.Region, page, n, from, to int, want api.Errno) {
	t.Helper()
	s := span(r.Page, r.N)
	got, e := vma.Put(l, r)
	answers(t, "Put", l, r, got, e, nil, want)
	got, e = vma.Cut(l, s)
	answers(t, "Cut", l, s, got, e, nil, want)
	got, e = vma.Protect(l, s, r.Perm)
	answers(t, "Protect", l, r, got, e, nil, want)
	if x, is, e := vma.Find(l, page); x != (api.Region{}) || is || e != want {
		t.Fatalf("Find(%v, %d) = %v, %v, %d; want %d", l, page, x, is, e, want)
	}
	if p, is, e := vma.Gap(l, n, from, to); p != 0 || is || e != want {
		t.Fatalf("Gap(%v, %d, %d, %d) = %d, %v, %d; want %d", l, n, from, to, p, is, e, want)
	}
	if n, e := vma.Pages(l); n != 0 || e != want {
		t.Fatalf("Pages(%v) = %d, %d; want %d", l, n, e, want)
	}
	if l, e := vma.Spans(l); len(l) != 0 || e != want {
		t.Fatalf("Spans = %v, %d; want %d", l, e, want)
	}
}

// P17.1

func TestP17_1Examples(t *testing.T) {
	for _, x := range []struct {
		l    []api.Region
		want api.Errno
	}{
		{nil, api.OK}, {[]api.Region{}, api.OK}, {two(), api.OK},
		{regions(10, 2, 3, 5, 3, 1), api.ErrArg}, {regions(5, 3, 1, 8, 1, 1), api.ErrArg}, {regions(5, 3, 1, 8, 1, 0), api.OK},
		{regions(0, 1, 1), api.ErrArg}, {regions(5, 1, 2), api.ErrArg},
	} {
		if e := vma.Check(x.l); e != x.want {
			t.Errorf("Check(%v) = %d, want %d", x.l, e, x.want)
		}
	}
}

// mayBe says whether a list may be: each of its regions by itself, and all of them as the form of their pages.
func mayBe(l []api.Region) bool {
	p := empty(1, 12)
	for _, r := range l {
		if r.Page < 1 || r.N < 1 || !slices.Contains(perms(), r.Perm) || p.count(span(r.Page, r.N)) > 0 {
			return false
		}
		p = p.with(span(r.Page, r.N), int(r.Perm))
	}
	return slices.Equal(p.list(), l)
}

func checks(t *testing.T, l ...api.Region) {
	t.Helper()
	want := api.ErrArg
	if mayBe(l) {
		want = api.OK
	}
	if e := vma.Check(l); e != want {
		t.Fatalf("Check(%v) = %d, want %d", l, e, want)
	}
}

func TestP17_1EachPairOfRegions(t *testing.T) {
	var all []api.Region
	for page := -1; page <= 5; page++ {
		for n := -1; n <= 4; n++ {
			for _, perm := range []int{0, 1, 2, 3, 4, 5, 255} {
				all = append(all, region(page, n, perm))
			}
		}
	}
	for _, a := range all {
		checks(t, a)
		for _, b := range all {
			checks(t, a, b)
		}
	}
}

func TestP17_1EachThreeRegions(t *testing.T) {
	var all []api.Region
	for page := 1; page <= 5; page++ {
		for n := 1; n <= 2; n++ {
			for _, perm := range perms() {
				all = append(all, region(page, n, int(perm)))
			}
		}
	}
	for _, a := range all {
		for _, b := range all {
			for _, c := range all {
				checks(t, a, b, c)
			}
		}
	}
}

func TestP17_1EachPermission(t *testing.T) {
	for perm := range 256 {
		want := api.ErrArg
		if slices.Contains(perms(), uint8(perm)) {
			want = api.OK
		}
		for _, l := range [][]api.Region{regions(5, 3, perm), regions(1, 1, 1, 5, 3, perm), regions(5, 3, perm, 9, 1, 1)} {
			if e := vma.Check(l); e != want {
				t.Fatalf("Check(%v) = %d, want %d", l, e, want)
			}
		}
	}
}

func TestP17_1Ends(t *testing.T) {
	for _, l := range [][]api.Region{regions(1, 1<<20-1, 3), regions(1<<20-1, 1, 1), regions(1, 1, 0, 1<<20-1, 1, 0), regions(1, 1<<20-2, 0, 1<<20-1, 1, 3), regions(1<<19, 1<<19, 3)} {
		if e := vma.Check(l); e != api.OK {
			t.Fatalf("Check(%v) = %d", l, e)
		}
	}
	for _, s := range wrongSpans() {
		x := region(s.Page, s.N, 1)
		for _, l := range [][]api.Region{{x}, {x, region(1<<20-1, 1, 0)}, {region(1, 1, 0), x}, {region(1, 1, 0), x, region(1<<20-1, 1, 0)}} {
			if e := vma.Check(l); e != api.ErrArg {
				t.Fatalf("Check(%v) = %d", l, e)
			}
		}
	}
}

func TestP17_1WrongAtEachPlace(t *testing.T) {
	for _, p := range []plain{full(), crowded()} {
		good := p.list()
		if e := vma.Check(good); e != api.OK || len(good) != 1024 {
			t.Fatalf("Check = %d, of %d regions", e, len(good))
		}
		for i := range good {
			for _, wrong := range []func(r *api.Region){
				func(r *api.Region) { r.N = 0 }, func(r *api.Region) { r.N = -1 }, func(r *api.Region) { r.Perm = 2 },
				func(r *api.Region) { r.Page = 0 }, func(r *api.Region) { r.N = 1 << 20 }, func(r *api.Region) { r.N = math.MaxInt },
			} {
				l := slices.Clone(good)
				wrong(&l[i])
				if e := vma.Check(l); e != api.ErrArg {
					t.Fatalf("Check, with %v at %d: %d", l[i], i, e)
				}
			}
			if l := slices.Clone(good); i > 0 {
				l[i-1], l[i] = l[i], l[i-1]
				if e := vma.Check(l); e != api.ErrArg {
					t.Fatalf("Check, with %d and %d in the other's place: %d", i-1, i, e)
				}
			}
		}
	}
}

func TestP17_1TooMany(t *testing.T) {
	long := append(full().list(), region(5000, 1, 1))
	for _, l := range [][]api.Region{long, make([]api.Region, 1025), make([]api.Region, 1<<16)} {
		if e := vma.Check(l); e != api.ErrMany {
			t.Fatalf("Check of %d regions: %d", len(l), e)
		}
	}
	for _, l := range [][]api.Region{long[:1024], long[1:]} {
		if e := vma.Check(l); e != api.OK {
			t.Fatalf("Check of %d regions: %d", len(l), e)
		}
	}
	if e := vma.Check(make([]api.Region, 1024)); e != api.ErrArg {
		t.Fatalf("Check of 1024 regions without pages: %d", e)
	}
}

// A list that may not be is told ahead of all else: of arguments that may not be, of pages that are mapped or not, and of regions that would be too many.
func TestP17_1AllOthersTellItFirst(t *testing.T) {
	many := append(full().list(), region(5000, 1, 1))
	late := full().list()
	late[1023].Perm = 2
	for _, x := range []struct {
		l    []api.Region
		want api.Errno
	}{
		{many, api.ErrMany}, {make([]api.Region, 1025), api.ErrMany}, {late, api.ErrArg}, {regions(10, 2, 3, 5, 3, 1), api.ErrArg}, {regions(5, 3, 1, 8, 1, 1), api.ErrArg},
		{regions(0, 1, 1), api.ErrArg}, {regions(5, 0, 1), api.ErrArg}, {regions(5, 1, 2), api.ErrArg}, {regions(5, 3, 1, 7, 2, 3), api.ErrArg}, {regions(5, 3, 1, 5, 3, 1), api.ErrArg},
	} {
		for _, r := range []api.Region{region(5, 1, 1), region(5, 3, 3), region(2050, 1, 1), region(3, 9, 0), {}, region(-1, -1, 2), region(5, 1, 2), region(6, 1<<20, 1)} {
			refuses(t, x.l, r, 5, 2, 1, 100, x.want)
			refuses(t, x.l, r, -1, 0, -1, -2, x.want)
			refuses(t, x.l, r, 1<<20, 1<<20+1, 9, 1<<20+1, x.want)
		}
	}
}

// P17.2

func finds(t *testing.T, l []api.Region, page int, want api.Region, there bool, wanted api.Errno) {
	t.Helper()
	var got api.Region
	var is bool
	var e api.Errno
	keeps(t, l, func(l []api.Region) { got, is, e = vma.Find(l, page) })
	if got != want || is != there || e != wanted {
		t.Fatalf("Find(%v, %d) = %v, %v, %d; want %v, %v, %d", l, page, got, is, e, want, there, wanted)
	}
}

func TestP17_2Examples(t *testing.T) {
	finds(t, two(), 7, region(5, 3, 1), true, api.OK)
	finds(t, two(), 8, api.Region{}, false, api.OK)
	finds(t, two(), -1, api.Region{}, false, api.ErrArg)
}

// had is the region that a page lies in, sought from the page in both directions.
func (p plain) had(page int) (api.Region, bool) {
	perm := p.at(page)
	if perm == none {
		return api.Region{}, false
	}
	from, to := page, page+1
	for p.at(from-1) == perm {
		from--
	}
	for p.at(to) == perm {
		to++
	}
	return region(from, to-from, perm), true
}

func TestP17_2EachPage(t *testing.T) {
	each(func(p plain) {
		l := p.list()
		for page := p.first - 1; page <= min(p.first+width, 1<<20-1); page++ {
			r, is := p.had(page)
			finds(t, l, page, r, is, api.OK)
		}
	})
	for _, p := range []plain{full(), crowded()} {
		l := p.list()
		for page := range p.first + len(p.perms) + 5 {
			r, is := p.had(page)
			finds(t, l, page, r, is, api.OK)
		}
	}
}

func TestP17_2Ends(t *testing.T) {
	all := regions(1, 1<<20-1, 3)
	finds(t, all, 0, api.Region{}, false, api.OK)
	finds(t, all, 1, all[0], true, api.OK)
	finds(t, all, 1<<19, all[0], true, api.OK)
	finds(t, all, 1<<20-1, all[0], true, api.OK)
	finds(t, nil, 0, api.Region{}, false, api.OK)
	finds(t, nil, 1<<20-1, api.Region{}, false, api.OK)
	for _, page := range append(far(), 1<<20) {
		for _, l := range [][]api.Region{nil, two(), all} {
			finds(t, l, page, api.Region{}, false, api.ErrArg)
		}
	}
}

// P17.3

func TestP17_3PutExamples(t *testing.T) {
	for _, x := range []struct {
		r    api.Region
		want []api.Region
		e    api.Errno
	}{
		{region(8, 2, 1), regions(5, 5, 1, 10, 2, 3), api.OK}, {region(8, 2, 3), regions(5, 3, 1, 8, 4, 3), api.OK},
		{region(7, 1, 1), nil, api.ErrBusy}, {region(8, 0, 1), nil, api.ErrArg}, {region(8, 1, 4), nil, api.ErrArg},
		{region(8, 2, 0), regions(5, 3, 1, 8, 2, 0, 10, 2, 3), api.OK}, {region(1, 2, 1), regions(1, 2, 1, 5, 3, 1, 10, 2, 3), api.OK}, {region(20, 2, 3), regions(5, 3, 1, 10, 2, 3, 20, 2, 3), api.OK},
	} {
		l, e := put(t, two(), x.r)
		answers(t, "Put", two(), x.r, l, e, x.want, x.e)
	}
	l, e := put(t, regions(5, 3, 1, 10, 2, 1), region(8, 2, 1))
	answers(t, "Put", nil, "between two of one permission", l, e, regions(5, 7, 1), api.OK)
}

func TestP17_3CutExamples(t *testing.T) {
	for _, x := range []struct {
		s    api.Span
		want []api.Region
		e    api.Errno
	}{
		{span(6, 5), regions(5, 1, 1, 11, 1, 3), api.OK}, {span(1, 4), two(), api.OK}, {span(6, 1), regions(5, 1, 1, 7, 1, 1, 10, 2, 3), api.OK}, {span(0, 9), nil, api.ErrArg},
		{span(1, 1<<20-1), nil, api.OK}, {span(8, 2), two(), api.OK}, {span(12, 1<<20-12), two(), api.OK}, {span(5, 3), regions(10, 2, 3), api.OK},
	} {
		l, e := cut(t, two(), x.s)
		answers(t, "Cut", two(), x.s, l, e, x.want, x.e)
	}
}

func TestP17_3EachPut(t *testing.T) {
	each(func(p plain) {
		l := p.list()
		p.eachSpan(func(s api.Span) {
			for _, perm := range perms() {
				r := region(s.Page, s.N, int(perm))
				got, e := put(t, l, r)
				want, wanted := p.put(r)
				answers(t, "Put", l, r, got, e, want, wanted)
			}
		})
	})
}

func TestP17_3EachCut(t *testing.T) {
	each(func(p plain) {
		l := p.list()
		p.eachSpan(func(s api.Span) {
			got, e := cut(t, l, s)
			want, wanted := p.cut(s)
			answers(t, "Cut", l, s, got, e, want, wanted)
		})
	})
}

func TestP17_3Ends(t *testing.T) {
	for _, r := range regions(1, 1<<20-1, 3, 1, 1, 0, 1<<20-1, 1, 1, 1<<19, 1<<19, 3) {
		l, e := put(t, nil, r)
		answers(t, "Put", nil, r, l, e, []api.Region{r}, api.OK)
		l, e = put(t, regions(1, 1<<20-1, 3), r)
		answers(t, "Put", nil, r, l, e, nil, api.ErrBusy)
		l, e = cut(t, []api.Region{r}, span(1, 1<<20-1))
		answers(t, "Cut", []api.Region{r}, "all", l, e, nil, api.OK)
		l, e = cut(t, nil, span(r.Page, r.N))
		answers(t, "Cut", nil, r, l, e, nil, api.OK)
	}
	l, e := cut(t, regions(1, 1<<20-1, 3), span(1<<19, 1))
	answers(t, "Cut", nil, "one of all", l, e, regions(1, 1<<19-1, 3, 1<<19+1, 1<<19-1, 3), api.OK)
}

// Pages that may not be are told ahead of those that are mapped, and so is a permission.
func TestP17_3WrongPages(t *testing.T) {
	for _, list := range [][]api.Region{nil, two(), regions(1, 1<<20-1, 3), full().list()} {
		for _, s := range wrongSpans() {
			for _, perm := range []int{0, 1, 2, 3, 255} {
				r := region(s.Page, s.N, perm)
				l, e := vma.Put(list, r)
				answers(t, "Put", list, r, l, e, nil, api.ErrArg)
			}
			l, e := vma.Cut(list, s)
			answers(t, "Cut", list, s, l, e, nil, api.ErrArg)
		}
		for perm := range 256 {
			if slices.Contains(perms(), uint8(perm)) {
				continue
			}
			for _, page := range []int{5, 8, 4000} {
				r := region(page, 1, perm)
				l, e := vma.Put(list, r)
				answers(t, "Put", list, r, l, e, nil, api.ErrArg)
			}
		}
	}
}

// Of as many regions as there may be: what makes one more is ErrMany, what does not is done, and what is mapped is told ahead.
func TestP17_3PutTooMany(t *testing.T) {
	p := full()
	list := p.list()
	all := []api.Region{region(1<<20-1, 1, 1), region(4000, 64, 0)}
	for page := 1; page < 2100; page++ {
		for _, perm := range perms() {
			all = append(all, region(page, 1, int(perm)))
		}
	}
	seen := map[api.Errno]int{}
	for _, r := range all {
		l, e := put(t, list, r)
		want, wanted := p.put(r)
		if r.Page >= 2100 {
			want, wanted = nil, api.ErrMany
		}
		answers(t, "Put", nil, r, l, e, want, wanted)
		seen[e]++
	}
	if seen[api.OK] < 100 || seen[api.ErrMany] < 100 || seen[api.ErrBusy] < 100 {
		t.Fatalf("seen: %v", seen)
	}
	l, e := put(t, list[1:], region(4000, 1, 1))
	answers(t, "Put", nil, "the last one that there is room for", l, e, append(slices.Clone(list[1:]), region(4000, 1, 1)), api.OK)
}

func TestP17_3CutTooMany(t *testing.T) {
	p := crowded()
	list := p.list()
	seen := map[api.Errno]int{}
	for page := 1; page < len(p.perms); page++ {
		s := span(page, 1+page/3%3)
		l, e := cut(t, list, s)
		want, wanted := p.cut(s)
		answers(t, "Cut", nil, s, l, e, want, wanted)
		seen[e]++
	}
	if seen[api.ErrMany] < 300 || seen[api.OK] < 1000 {
		t.Fatalf("seen: %v", seen)
	}
}

// P17.4

func TestP17_4Examples(t *testing.T) {
	for _, x := range []struct {
		s    api.Span
		perm uint8
		want []api.Region
		e    api.Errno
	}{
		{span(6, 1), 3, regions(5, 1, 1, 6, 1, 3, 7, 1, 1, 10, 2, 3), api.OK}, {span(5, 3), 3, regions(5, 3, 3, 10, 2, 3), api.OK},
		{span(7, 2), 1, nil, api.ErrFault}, {span(10, 2), 2, nil, api.ErrArg},
		{span(4, 1), 1, nil, api.ErrFault}, {span(12, 1), 3, nil, api.ErrFault}, {span(5, 7), 3, nil, api.ErrFault}, {span(5, 3), 1, two(), api.OK},
	} {
		l, e := protect(t, two(), x.s, x.perm)
		answers(t, "Protect", two(), x.s, l, e, x.want, x.e)
	}
}

func TestP17_4EachProtect(t *testing.T) {
	each(func(p plain) {
		l := p.list()
		p.eachSpan(func(s api.Span) {
			for _, perm := range perms() {
				got, e := protect(t, l, s, perm)
				want, wanted := p.protect(s, perm)
				answers(t, "Protect", l, s, got, e, want, wanted)
			}
		})
	})
}

func TestP17_4Ends(t *testing.T) {
	all := regions(1, 1<<20-1, 3)
	for _, s := range spans(1, 1<<20-1, 1, 1, 1<<20-1, 1, 1<<19, 1<<19) {
		l, e := protect(t, all, s, 3)
		answers(t, "Protect", all, s, l, e, all, api.OK)
		l, e = protect(t, nil, s, 3)
		answers(t, "Protect", nil, s, l, e, nil, api.ErrFault)
	}
	l, e := protect(t, all, span(1<<20-1, 1), 0)
	answers(t, "Protect", all, "the last page", l, e, regions(1, 1<<20-2, 3, 1<<20-1, 1, 0), api.OK)
	l, e = protect(t, all, span(1, 1), 1)
	answers(t, "Protect", all, "the first page", l, e, regions(1, 1, 1, 2, 1<<20-2, 3), api.OK)
}

// Pages and permissions that may not be are told ahead of pages that are not mapped.
func TestP17_4WrongPages(t *testing.T) {
	for _, list := range [][]api.Region{nil, two(), regions(1, 1<<20-1, 3), crowded().list()} {
		for _, s := range wrongSpans() {
			for _, perm := range []uint8{0, 1, 2, 3, 255} {
				l, e := vma.Protect(list, s, perm)
				answers(t, "Protect", list, s, l, e, nil, api.ErrArg)
			}
		}
		for perm := range 256 {
			if slices.Contains(perms(), uint8(perm)) {
				continue
			}
			for _, page := range []int{5, 8, 4000} {
				l, e := vma.Protect(list, span(page, 1), uint8(perm))
				answers(t, "Protect", list, page, l, e, nil, api.ErrArg)
			}
		}
	}
}

// Of as many regions as there may be: what makes more is ErrMany, what does not is done, and what is not mapped is told ahead.
func TestP17_4TooMany(t *testing.T) {
	for drop := range 3 {
		p := crowded()
		p = p.with(span(2990, 3*drop), none)
		list := p.list()
		seen := map[api.Errno]int{}
		for page := 1; page < len(p.perms); page++ {
			s, perm := span(page, 1+page/2%4), perms()[page%7%3]
			l, e := protect(t, list, s, perm)
			want, wanted := p.protect(s, perm)
			answers(t, "Protect", nil, s, l, e, want, wanted)
			seen[e]++
		}
		if seen[api.OK] < 1000 || drop < 2 && seen[api.ErrMany] < 100 || seen[api.ErrFault] < 4 {
			t.Fatalf("%d regions fewer: %v", drop, seen)
		}
	}
}

// P17.5

func gaps(t *testing.T, l []api.Region, n, from, to, want int, there bool, wanted api.Errno) {
	t.Helper()
	var got int
	var is bool
	var e api.Errno
	keeps(t, l, func(l []api.Region) { got, is, e = vma.Gap(l, n, from, to) })
	if got != want || is != there || e != wanted {
		t.Fatalf("Gap(%v, %d, %d, %d) = %d, %v, %d; want %d, %v, %d", l, n, from, to, got, is, e, want, there, wanted)
	}
}

func TestP17_5Examples(t *testing.T) {
	gaps(t, two(), 2, 1, 100, 1, true, api.OK)
	gaps(t, two(), 4, 3, 100, 12, true, api.OK)
	gaps(t, two(), 2, 5, 10, 8, true, api.OK)
	gaps(t, two(), 3, 5, 10, 0, false, api.OK)
	gaps(t, two(), 0, 1, 9, 0, false, api.ErrArg)
}

func TestP17_5EachGap(t *testing.T) {
	each(func(p plain) {
		l := p.list()
		last := min(p.first+width+2, 1<<20)
		for from := p.first - 1; from <= last; from++ {
			for to := from; to <= last; to++ {
				for n := 1; n <= to-from+1; n++ {
					page, is := p.gap(n, from, to)
					gaps(t, l, n, from, to, page, is, api.OK)
				}
			}
		}
	})
}

func TestP17_5Ends(t *testing.T) {
	gaps(t, nil, 1<<20, 0, 1<<20, 0, true, api.OK)
	gaps(t, nil, 1<<20, 1, 1<<20, 0, false, api.OK)
	gaps(t, nil, 1<<20, 0, 1<<20-1, 0, false, api.OK)
	gaps(t, nil, 1<<20-1, 1, 1<<20, 1, true, api.OK)
	gaps(t, nil, 1, 1<<20-1, 1<<20, 1<<20-1, true, api.OK)
	gaps(t, nil, 1, 1<<20, 1<<20, 0, false, api.OK)
	gaps(t, nil, 1, 0, 0, 0, false, api.OK)
	gaps(t, nil, 1, 0, 1, 0, true, api.OK)
	all := regions(1, 1<<20-1, 3)
	gaps(t, all, 1, 0, 1<<20, 0, true, api.OK)
	gaps(t, all, 2, 0, 1<<20, 0, false, api.OK)
	gaps(t, all, 1, 1, 1<<20, 0, false, api.OK)
	gaps(t, all, 1, 1<<20, 1<<20, 0, false, api.OK)
	gaps(t, regions(1, 1<<20-2, 3), 1, 1, 1<<20, 1<<20-1, true, api.OK)
	gaps(t, regions(2, 1<<20-2, 3), 1, 1, 1<<20, 1, true, api.OK)
	gaps(t, regions(2, 1<<20-2, 3), 1, 2, 1<<20, 0, false, api.OK)
}

func TestP17_5WrongNumbers(t *testing.T) {
	for _, l := range [][]api.Region{nil, two(), regions(1, 1<<20-1, 3), full().list()} {
		for _, x := range append(far(), 0) {
			gaps(t, l, x, 1, 100, 0, false, api.ErrArg)
			gaps(t, l, x, 0, 1<<20, 0, false, api.ErrArg)
			gaps(t, l, x, 9, 9, 0, false, api.ErrArg)
		}
		for _, x := range far() {
			gaps(t, l, 1, x, 100, 0, false, api.ErrArg)
			gaps(t, l, 1, x, 1<<20, 0, false, api.ErrArg)
			gaps(t, l, 1, x, x, 0, false, api.ErrArg)
			gaps(t, l, 1, 0, x, 0, false, api.ErrArg)
			gaps(t, l, 1<<20, 9, x, 0, false, api.ErrArg)
		}
		for _, x := range [][2]int{{1, 0}, {9, 8}, {1 << 20, 1<<20 - 1}, {1 << 20, 0}} {
			gaps(t, l, 1, x[0], x[1], 0, false, api.ErrArg)
		}
	}
}

func TestP17_5ManyRegions(t *testing.T) {
	p := full()
	l := p.list()
	for from := range 2060 {
		for n := 1; n <= 3; n++ {
			for _, to := range []int{2040, 2051, 2060} {
				if from <= to {
					page, is := p.gap(n, from, to)
					gaps(t, l, n, from, to, page, is, api.OK)
				}
			}
		}
	}
}

// P17.6

func tells(t *testing.T, l []api.Region, pages int, want []api.Span) {
	t.Helper()
	keeps(t, l, func(l []api.Region) {
		if n, e := vma.Pages(l); n != pages || e != api.OK {
			t.Fatalf("Pages(%v) = %d, %d; want %d", l, n, e, pages)
		}
		if got, e := vma.Spans(l); !slices.Equal(got, want) || e != api.OK {
			t.Fatalf("Spans(%v) = %v, %d; want %v", l, got, e, want)
		}
	})
}

func TestP17_6Examples(t *testing.T) {
	tells(t, two(), 5, spans(5, 3, 10, 2))
	tells(t, nil, 0, nil)
	tells(t, regions(1, 1<<20-1, 3), 1<<20-1, spans(1, 1<<20-1))
	tells(t, regions(1, 1, 1, 2, 1<<20-2, 0), 1<<20-1, spans(1, 1, 2, 1<<20-2))
}

func TestP17_6EachList(t *testing.T) {
	all := func(p plain) {
		l := p.list()
		var want []api.Span
		for _, r := range l {
			want = append(want, span(r.Page, r.N))
		}
		tells(t, l, p.mapped(), want)
	}
	each(all)
	all(full())
	all(crowded())
}

// P17.7

// spoil writes over a list, its spare room too.
func spoil[T any](l []T) {
	l = l[:cap(l)]
	clear(l)
}

// What is answered is spoiled: what was handed in, its spare room, and what was answered before stay.
func TestP17_7NewMemory(t *testing.T) {
	lists := func(l []api.Region) [][]api.Region {
		a, _ := vma.Put(l, region(20, 2, 1))
		b, _ := vma.Put(l, region(8, 2, 1))
		c, _ := vma.Cut(l, span(1, 3))
		d, _ := vma.Cut(l, span(6, 5))
		e, _ := vma.Cut(l, span(6, 1))
		f, _ := vma.Protect(l, span(5, 3), 1)
		g, _ := vma.Protect(l, span(6, 1), 3)
		h, _ := vma.Cut(l, span(12, 99))
		return [][]api.Region{a, b, c, d, e, f, g, h}
	}
	for _, l := range [][]api.Region{two(), regions(5, 3, 1, 10, 1, 1, 11, 1, 3, 30, 1, 0), regions(5, 3, 1)} {
		keeps(t, l, func(l []api.Region) {
			got, want := lists(l), lists(l)
			for i := range got {
				if len(got[i]) > 0 && &got[i][0] == &l[0] {
					t.Fatalf("the answer %d is the list that was handed in", i)
				}
				spoil(got[i])
				for k := i + 1; k < len(got); k++ {
					if !slices.Equal(got[k], want[k]) {
						t.Fatalf("the answers %d and %d share memory", i, k)
					}
				}
			}
			if again := lists(l); !slices.EqualFunc(again, want, slices.Equal[[]api.Region]) {
				t.Fatalf("%v became %v", want, again)
			}
			a, _ := vma.Spans(l)
			b, _ := vma.Spans(l)
			spoil(a)
			if c, _ := vma.Spans(l); !slices.Equal(b, c) || slices.Equal(a, b) {
				t.Fatalf("Spans share memory: %v, %v, %v", a, b, c)
			}
		})
	}
}

// What is handed in is spoiled: what was answered stays.
func TestP17_7NotKept(t *testing.T) {
	each(func(p plain) {
		if len(p.list()) < 3 {
			return
		}
		s := span(p.first, 1)
		l := slices.Grow(p.list(), 4)
		a, _ := vma.Cut(l, s)
		b, e := vma.Put(a, region(p.first, 1, 3))
		c, _ := vma.Protect(b, s, 1)
		d, _ := vma.Spans(c)
		was := slices.Clone(d)
		spoil(l)
		if !slices.Equal(a, p.with(s, none).list()) {
			t.Fatalf("Cut: %v", a)
		}
		spoil(a)
		if !slices.Equal(b, p.with(s, 3).list()) || e != api.OK {
			t.Fatalf("Put: %v, %d", b, e)
		}
		spoil(b)
		if !slices.Equal(c, p.with(s, 1).list()) {
			t.Fatalf("Protect: %v", c)
		}
		spoil(c)
		if !slices.Equal(d, was) {
			t.Fatalf("Spans: %v", d)
		}
	})
}

// P17.8

// pagesOf is what Find tells of each page around p's.
func (p plain) pagesOf(t *testing.T, l []api.Region) plain {
	t.Helper()
	if e := vma.Check(l); e != api.OK {
		t.Fatalf("%v is not in the one form", l)
	}
	got := empty(p.first, len(p.perms))
	for i := range got.perms {
		r, is, e := vma.Find(l, p.first+i)
		if e != api.OK {
			t.Fatalf("Find: %d", e)
		}
		if is {
			got.perms[i] = int(r.Perm)
		}
	}
	return got
}

func found(t *testing.T, p plain, l []api.Region, want plain) {
	t.Helper()
	if got := p.pagesOf(t, l); !slices.Equal(got.perms, want.perms) {
		t.Fatalf("%v has the pages %v; want %v", l, got.perms, want.perms)
	}
}

func TestP17_8Found(t *testing.T) {
	number := 0
	each(func(p plain) {
		l := p.list()
		p.eachSpan(func(s api.Span) {
			number++
			perm := perms()[number%3]
			a, e := vma.Cut(l, s)
			found(t, p, well(t, a, e), p.with(s, none))
			b, e := vma.Put(a, region(s.Page, s.N, int(perm)))
			found(t, p, well(t, b, e), p.with(s, int(perm)))
			perm = perms()[number/3%3]
			c, e := vma.Protect(b, s, perm)
			found(t, p, well(t, c, e), p.with(s, int(perm)))
		})
	})
}

func TestP17_8ThereAndBack(t *testing.T) {
	number := 0
	each(func(p plain) {
		l := p.list()
		p.eachSpan(func(s api.Span) {
			number++
			r := region(s.Page, s.N, int(perms()[number%3]))
			if a, e := vma.Put(l, r); e == api.OK {
				b, e := vma.Cut(a, s)
				answers(t, "Cut", a, s, b, e, l, api.OK)
			}
			a, e := vma.Cut(l, s)
			a = well(t, a, e)
			for i := range s.N {
				page := s.Page + i
				if number%2 == 0 {
					page = s.Page + s.N - 1 - i
				}
				if perm := p.at(page); perm != none {
					a, e = vma.Put(a, region(page, 1, perm))
					a = well(t, a, e)
				}
			}
			if !slices.Equal(a, l) {
				t.Fatalf("%v without %v, and back: %v", l, s, a)
			}
		})
	})
}

// A plain one and lists go together, through calls by chance, where regions are about as many as there may be.
func TestP17_8ByChance(t *testing.T) {
	d := dice(1708)
	p := empty(1<<19-1000, 4000)
	var l []api.Region
	seen := map[api.Errno]int{}
	for range 12000 {
		s := span(p.first+d.below(4000-5), 1+d.below(1+d.below(5)))
		perm := d.perm()
		before := l
		var want []api.Region
		var wanted, e api.Errno
		next := int(perm)
		switch d.below(5) {
		case 0, 1:
			want, wanted = p.put(region(s.Page, s.N, int(perm)))
			l, e = put(t, l, region(s.Page, s.N, int(perm)))
		case 2:
			want, wanted = p.cut(s)
			l, e = cut(t, l, s)
			next = none
		default:
			want, wanted = p.protect(s, perm)
			l, e = protect(t, l, s, perm)
		}
		answers(t, "a call", nil, s, l, e, want, wanted)
		seen[e]++
		if e != api.OK {
			l = before
			continue
		}
		p = p.with(s, next)
	}
	for _, e := range []api.Errno{api.OK, api.ErrBusy, api.ErrFault, api.ErrMany} {
		if seen[e] < 50 {
			t.Fatalf("seen: %v", seen)
		}
	}
}

// P17.9

// However pages came to be as they are, their list is the same.
func TestP17_9OneForm(t *testing.T) {
	d := dice(1709)
	each(func(p plain) {
		var up, down []api.Region
		for i := range p.perms {
			for _, x := range []struct {
				l  *[]api.Region
				at int
			}{{&up, i}, {&down, len(p.perms) - 1 - i}} {
				if p.perms[x.at] != none {
					l, e := vma.Put(*x.l, region(p.first+x.at, 1, p.perms[x.at]))
					*x.l = well(t, l, e)
				}
			}
		}
		under, e := vma.Put(nil, region(p.first, width, int(d.perm())))
		under = well(t, under, e)
		for i, perm := range p.perms {
			if perm == none {
				under, e = vma.Cut(under, span(p.first+i, 1))
			} else {
				under, e = vma.Protect(under, span(p.first+i, 1), uint8(perm))
			}
			under = well(t, under, e)
		}
		if !slices.Equal(up, p.list()) || !slices.Equal(down, up) || !slices.Equal(under, up) {
			t.Fatalf("%v: %v, %v, %v", p, up, down, under)
		}
	})
}

func TestP17_9GapsCanBePut(t *testing.T) {
	each(func(p plain) {
		l := p.list()
		last := min(p.first+width+2, 1<<20)
		for n := 1; n <= width; n++ {
			for from := max(p.first-1, 1); from <= last; from++ {
				page, is, _ := vma.Gap(l, n, from, last)
				if lower, also, _ := vma.Gap(l, n, from-1, last); lower != from-1 && (lower != page || also != is) {
					t.Fatalf("Gap(%v, %d, ..): %d, %v from %d on, %d, %v from %d on", l, n, page, is, from, lower, also, from-1)
				}
				for _, perm := range perms() {
					if !is {
						break
					}
					if got, e := vma.Put(l, region(page, n, int(perm))); e != api.OK {
						t.Fatalf("Put(%v, %d %d) = %v, %d", l, page, n, got, e)
					}
				}
				for q := from; q < page; q++ {
					if _, e := vma.Put(l, region(q, n, 1)); e != api.ErrBusy {
						t.Fatalf("Put(%v, %d %d) = %d, lower than Gap's", l, q, n, e)
					}
				}
			}
		}
	})
}

// change is one thing that is done to a span's pages.
type change struct {
	kind int
	s    api.Span
	perm uint8
}

func (c change) do(l []api.Region) ([]api.Region, api.Errno) {
	switch c.kind {
	case 0:
		return vma.Put(l, region(c.s.Page, c.s.N, int(c.perm)))
	case 1:
		return vma.Cut(l, c.s)
	}
	return vma.Protect(l, c.s, c.perm)
}

func TestP17_9EitherOrder(t *testing.T) {
	d := dice(1710)
	done := 0
	each(func(p plain) {
		l := p.list()
		p.eachSpan(func(s api.Span) {
			x := change{d.below(3), s, d.perm()}
			q := s.Page + s.N + d.below(2)
			n := p.first + width - q
			if n < 1 {
				return
			}
			y := change{d.below(3), span(q, 1+d.below(n)), d.perm()}
			a, first := x.do(l)
			b, second := y.do(l)
			if first != api.OK || second != api.OK {
				return
			}
			done++
			a, first = y.do(a)
			b, second = x.do(b)
			if first != api.OK || second != api.OK || !slices.Equal(a, b) {
				t.Fatalf("%v, %v and %v: %v, %d; %v, %d", l, x, y, a, first, b, second)
			}
		})
	})
	if done < 10000 {
		t.Fatalf("only %d were done", done)
	}
}

func TestP17_9Twice(t *testing.T) {
	d := dice(1711)
	each(func(p plain) {
		l := p.list()
		p.eachSpan(func(s api.Span) {
			a, e := vma.Cut(l, s)
			a = well(t, a, e)
			b, e := vma.Cut(a, s)
			answers(t, "Cut", a, s, b, e, a, api.OK)
			perm := d.perm()
			a, e = vma.Protect(l, s, perm)
			if e != api.OK {
				return
			}
			b, e = vma.Protect(a, s, perm)
			answers(t, "Protect", a, s, b, e, a, api.OK)
			other, e := vma.Protect(l, s, d.perm())
			b, e = vma.Protect(well(t, other, e), s, perm)
			answers(t, "Protect", other, s, b, e, a, api.OK)
		})
	})
}
