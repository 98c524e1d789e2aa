package cache_test

import (
	"math"
	"math/bits"
	"slices"
	"testing"

	"cofferdam/api"
	"cofferdam/cache"
)

func made(t *testing.T, sets, ways int) *cache.Cache {
	t.Helper()
	c, e := cache.New(sets, ways)
	if c == nil || e != api.OK {
		t.Fatalf("New(%d, %d) = %v, %d", sets, ways, c, e)
	}
	return c
}

// touch touches, fails the test if that is refused, and says whether the tag was there.
func touch(t *testing.T, c *cache.Cache, set int, tag uint64) bool {
	t.Helper()
	hit, e := c.Touch(set, tag)
	if e != api.OK {
		t.Fatalf("Touch(%d, %d) refused: %d", set, tag, e)
	}
	return hit
}

// has looks, and fails the test if that is refused.
func has(t *testing.T, c *cache.Cache, set int, tag uint64) bool {
	t.Helper()
	is, e := c.Has(set, tag)
	if e != api.OK {
		t.Fatalf("Has(%d, %d) refused: %d", set, tag, e)
	}
	return is
}

// holds fails the test unless the cache's lines are those, by Lines and by Count.
func holds(t *testing.T, c *cache.Cache, want ...api.Line) {
	t.Helper()
	if l := c.Lines(); !slices.Equal(l, want) {
		t.Fatalf("Lines: %v, want %v", l, want)
	}
	if n := c.Count(); n != len(want) {
		t.Fatalf("Count: %d, want %d", n, len(want))
	}
}

// dice are numbers that look like chance, the same ones in each run.
type dice uint64

func (d *dice) word() uint64 {
	*d = *d*6364136223846793005 + 1442695040888963407
	return uint64(*d)
}

func (d *dice) below(n int) int { return int(d.word() >> 33 % uint64(n)) }

// past is all touches that were done since the last flush: what a cache holds is told from them, from the last one back.
type past struct {
	sets, ways int
	done       []api.Line
}

// tags is what a set holds, the youngest first.
func (p *past) tags(set int) []uint64 {
	var l []uint64
	for _, x := range slices.Backward(p.done) {
		if len(l) == p.ways {
			break
		}
		if x.Set == set && !slices.Contains(l, x.Tag) {
			l = append(l, x.Tag)
		}
	}
	return l
}

func (p *past) lines() []api.Line {
	var all []api.Line
	for set := range p.sets {
		for _, tag := range p.tags(set) {
			all = append(all, api.Line{Set: set, Tag: tag})
		}
	}
	return all
}

// Sets that a cache of n sets has not.
func noSets(n int) []int {
	return []int{n, n + 1, 2 * n, -1, -n, api.MaxSets, api.MaxSets + 1, 1 << 31, 1 << 32, 1<<32 + 1, math.MaxInt, math.MinInt, math.MinInt + 1}
}

// Numbers that are far from all that may be.
var far = []int{-1, -2, -16, -4096, 1 << 13, 1 << 16, 1 << 31, 1 << 32, 1<<32 + 1, 1<<32 + 16, 1 << 62, math.MaxInt, math.MinInt, math.MinInt + 1}

// caches that no call has made.
func none() []*cache.Cache { return []*cache.Cache{nil, {}, new(cache.Cache)} }

func TestP3_1Examples(t *testing.T) {
	for _, x := range []struct {
		sets, ways int
		e          api.Errno
	}{{3, 1, api.ErrArg}, {4, 17, api.ErrArg}, {4096, 16, api.OK}, {0, 1, api.ErrArg}} {
		if c, e := cache.New(x.sets, x.ways); e != x.e || (c != nil) != (e == api.OK) {
			t.Errorf("New(%d, %d) = %v, %d", x.sets, x.ways, c, e)
		}
	}
}

func TestP3_1WhichSets(t *testing.T) {
	asked := slices.Clone(far)
	for n := -20; n <= 2*api.MaxSets+1; n++ {
		asked = append(asked, n)
	}
	for _, n := range asked {
		may := n >= 1 && n <= api.MaxSets && bits.OnesCount(uint(n)) == 1
		for _, ways := range []int{1, api.MaxWays} {
			c, e := cache.New(n, ways)
			if may != (e == api.OK) || may != (c != nil) || !may && e != api.ErrArg {
				t.Errorf("New(%d, %d) = %v, %d", n, ways, c != nil, e)
			}
		}
	}
}

func TestP3_1WhichWays(t *testing.T) {
	asked := slices.Clone(far)
	for n := -20; n <= 100; n++ {
		asked = append(asked, n)
	}
	for _, n := range asked {
		may := n >= 1 && n <= api.MaxWays
		for _, sets := range []int{1, 2, 64, api.MaxSets} {
			c, e := cache.New(sets, n)
			if may != (e == api.OK) || may != (c != nil) || !may && e != api.ErrArg {
				t.Errorf("New(%d, %d) = %v, %d", sets, n, c != nil, e)
			}
		}
		if c, e := cache.New(3, n); c != nil || e != api.ErrArg {
			t.Errorf("New(3, %d) = %v, %d", n, c, e)
		}
	}
}

func TestP3_1HoldsNothing(t *testing.T) {
	for sets := 1; sets <= api.MaxSets; sets *= 2 {
		c := made(t, sets, 3)
		holds(t, c)
		for _, set := range []int{0, sets / 2, sets - 1} {
			for _, tag := range []uint64{0, 1, math.MaxUint64} {
				if has(t, c, set, tag) {
					t.Errorf("%d sets: a new one has %d in %d", sets, tag, set)
				}
			}
		}
		if n, e := c.Flush(); n != 0 || e != api.OK {
			t.Errorf("%d sets: Flush of a new one: %d, %d", sets, n, e)
		}
	}
}

// As many sets and ways as were asked for are there, and no more.
func TestP3_1AsAsked(t *testing.T) {
	for sets := 1; sets <= api.MaxSets; sets *= 2 {
		for ways := 1; ways <= api.MaxWays; ways++ {
			c := made(t, sets, ways)
			for _, set := range []int{0, sets - 1} {
				for tag := range uint64(40) {
					touch(t, c, set, tag)
				}
			}
			want := ways * min(sets, 2)
			if c.Count() != want || len(c.Lines()) != want {
				t.Errorf("New(%d, %d): %d tags, want %d", sets, ways, c.Count(), want)
			}
			if _, e := c.Touch(sets, 0); e != api.ErrArg {
				t.Errorf("New(%d, %d): it has a set %d: %d", sets, ways, sets, e)
			}
		}
	}
}

func TestP3_1Whole(t *testing.T) {
	c := made(t, api.MaxSets, api.MaxWays)
	for tag := range uint64(api.MaxWays + 1) {
		for set := range api.MaxSets {
			touch(t, c, set, tag)
		}
	}
	if n, e := c.Flush(); n != api.MaxSets*api.MaxWays || e != api.OK {
		t.Errorf("Flush: %d, %d", n, e)
	}
}

// Each New is a cache of its own.
func TestP3_1Apart(t *testing.T) {
	a, b := made(t, 2, 2), made(t, 2, 2)
	touch(t, a, 0, 5)
	holds(t, b)
	touch(t, b, 1, 6)
	holds(t, a, api.Line{Set: 0, Tag: 5})
	if n, _ := a.Flush(); n != 1 {
		t.Errorf("Flush: %d", n)
	}
	holds(t, b, api.Line{Set: 1, Tag: 6})
}

func TestP3_2Examples(t *testing.T) {
	c := made(t, 2, 2)
	for i, x := range []struct {
		tag uint64
		hit bool
	}{{7, false}, {8, false}, {7, true}, {9, false}} {
		if hit := touch(t, c, 1, x.tag); hit != x.hit {
			t.Errorf("touch %d of %d: %v", i, x.tag, hit)
		}
	}
	if has(t, c, 1, 8) || has(t, c, 0, 9) {
		t.Error("8 is there still, or 9 in another set")
	}
	holds(t, c, api.Line{Set: 1, Tag: 9}, api.Line{Set: 1, Tag: 7})
	if hit, e := c.Touch(2, 1); hit || e != api.ErrArg {
		t.Errorf("Touch(2, 1) = %v, %d", hit, e)
	}
	if n, e := c.Flush(); n != 2 || e != api.OK {
		t.Errorf("Flush: %d, %d", n, e)
	}
	holds(t, c)
}

func TestP3_2NoCache(t *testing.T) {
	for i, c := range none() {
		for _, set := range append(noSets(1), 0) {
			if hit, e := c.Touch(set, 1); hit || e != api.ErrNil {
				t.Errorf("%d: Touch(%d, 1) = %v, %d", i, set, hit, e)
			}
			if is, e := c.Has(set, 1); is || e != api.ErrNil {
				t.Errorf("%d: Has(%d, 1) = %v, %d", i, set, is, e)
			}
		}
		if c.Count() != 0 {
			t.Errorf("%d: a touch that was refused has left something", i)
		}
	}
}

// What is refused changes nothing, even if the tag stands in each set that there is.
func TestP3_2NoSet(t *testing.T) {
	for _, sets := range []int{1, 2, 8, api.MaxSets} {
		c := made(t, sets, 2)
		for set := range sets {
			touch(t, c, set, 1)
			touch(t, c, set, 2)
		}
		was := c.Lines()
		for _, set := range noSets(sets) {
			if set >= 0 && set < sets {
				continue
			}
			if hit, e := c.Touch(set, 1); hit || e != api.ErrArg {
				t.Errorf("%d sets: Touch(%d, 1) = %v, %d", sets, set, hit, e)
			}
			if is, e := c.Has(set, 1); is || e != api.ErrArg {
				t.Errorf("%d sets: Has(%d, 1) = %v, %d", sets, set, is, e)
			}
		}
		holds(t, c, was...)
	}
}

// All numbers of 64 bits are tags, each another one; 0 is one, too.
func TestP3_2AllTags(t *testing.T) {
	tags := []uint64{0, 1, 1 << 16, 1 << 31, 1 << 32, 1<<32 + 1, 1 << 63, 1<<63 + 1, math.MaxUint64 - 1, math.MaxUint64}
	c := made(t, 1, len(tags))
	for _, tag := range tags {
		if has(t, c, 0, tag) || touch(t, c, 0, tag) || !has(t, c, 0, tag) || !touch(t, c, 0, tag) {
			t.Errorf("the tag %d is there too early, or not", tag)
		}
	}
	for i, l := range c.Lines() {
		if want := tags[len(tags)-1-i]; l != (api.Line{Tag: want}) {
			t.Errorf("line %d: %v, want %d", i, l, want)
		}
	}
}

// Of each number of ways, from each place in the set: what is touched goes ahead, the others keep their order, and each tag is there once.
func TestP3_2FromEachPlace(t *testing.T) {
	for ways := 1; ways <= api.MaxWays; ways++ {
		for full := 1; full <= ways; full++ {
			for at := range full {
				c := made(t, 2, ways)
				var want []api.Line
				for i := range full {
					touch(t, c, 1, uint64(i))
					want = slices.Insert(want, 0, api.Line{Set: 1, Tag: uint64(i)})
				}
				x := want[at]
				want = slices.Insert(slices.Delete(want, at, at+1), 0, x)
				if !touch(t, c, 1, x.Tag) {
					t.Errorf("%d ways, %d full: the tag at %d is not there", ways, full, at)
				}
				holds(t, c, want...)
			}
		}
	}
}

// Of each number of ways: while there is room nothing leaves, and then the oldest alone.
func TestP3_2OldestLeaves(t *testing.T) {
	for ways := 1; ways <= api.MaxWays; ways++ {
		c := made(t, 1, ways)
		for tag := range 3 * ways {
			if touch(t, c, 0, uint64(tag)) {
				t.Errorf("%d ways: %d was there", ways, tag)
			}
			var want []api.Line
			for i := tag; i >= 0 && i > tag-ways; i-- {
				want = append(want, api.Line{Tag: uint64(i)})
			}
			holds(t, c, want...)
		}
	}
}

func TestP3_2HasTurnsNothing(t *testing.T) {
	c := made(t, 2, 3)
	for tag := range uint64(3) {
		touch(t, c, 0, tag)
	}
	was := c.Lines()
	for tag := range uint64(6) {
		for range 3 {
			if is := has(t, c, 0, tag); is != (tag < 3) {
				t.Errorf("Has(0, %d) = %v", tag, is)
			}
			if has(t, c, 1, tag) {
				t.Errorf("Has(1, %d)", tag)
			}
			holds(t, c, was...)
		}
	}
	has(t, c, 0, 0)
	touch(t, c, 0, 9)
	if has(t, c, 0, 0) || !has(t, c, 0, 1) {
		t.Error("the oldest one was saved by being looked at")
	}
}

// Runs of mixed calls, held against what the touches themselves tell.
func TestP3_2Runs(t *testing.T) {
	d := dice(3)
	for _, shape := range [][2]int{{1, 1}, {1, 2}, {1, 16}, {2, 1}, {2, 3}, {4, 4}, {8, 2}, {16, 16}} {
		p := &past{sets: shape[0], ways: shape[1]}
		c := made(t, p.sets, p.ways)
		for range 1500 {
			set, tag := d.below(p.sets), uint64(d.below(2*p.ways+1))
			is := slices.Contains(p.tags(set), tag)
			switch k := d.below(100); {
			case k < 70:
				if hit := touch(t, c, set, tag); hit != is {
					t.Fatalf("%v: Touch(%d, %d) = %v", shape, set, tag, hit)
				}
				p.done = append(p.done, api.Line{Set: set, Tag: tag})
			case k < 95:
				if got := has(t, c, set, tag); got != is {
					t.Fatalf("%v: Has(%d, %d) = %v", shape, set, tag, got)
				}
			case k < 99:
				holds(t, c, p.lines()...)
			default:
				n, e := c.Flush()
				if n != len(p.lines()) || e != api.OK {
					t.Fatalf("%v: Flush: %d, %d", shape, n, e)
				}
				p.done = nil
			}
		}
		holds(t, c, p.lines()...)
	}
}

func TestP3_3NoCache(t *testing.T) {
	for i, c := range none() {
		if n, e := c.Flush(); n != 0 || e != api.ErrNil {
			t.Errorf("%d: Flush: %d, %d", i, n, e)
		}
		if n, l := c.Count(), c.Lines(); n != 0 || len(l) != 0 {
			t.Errorf("%d: Count %d, Lines %v", i, n, l)
		}
	}
}

func TestP3_3Flush(t *testing.T) {
	c := made(t, 4, 2)
	for _, x := range []api.Line{{Set: 0, Tag: 1}, {Set: 0, Tag: 2}, {Set: 0, Tag: 3}, {Set: 3, Tag: 1}, {Set: 3, Tag: 1}} {
		touch(t, c, x.Set, x.Tag)
	}
	if n, e := c.Flush(); n != 3 || e != api.OK {
		t.Errorf("Flush: %d, %d", n, e)
	}
	holds(t, c)
	for set := range 4 {
		for tag := range uint64(4) {
			if has(t, c, set, tag) {
				t.Errorf("behind Flush %d is in %d", tag, set)
			}
		}
	}
	if n, e := c.Flush(); n != 0 || e != api.OK {
		t.Errorf("the second Flush: %d, %d", n, e)
	}
}

// Behind Flush a cache is as a new one of as many sets and ways.
func TestP3_3AsNew(t *testing.T) {
	for ways := 1; ways <= api.MaxWays; ways++ {
		old, fresh := made(t, 4, ways), made(t, 4, ways)
		for tag := range uint64(3 * ways) {
			touch(t, old, int(tag%4), tag)
		}
		old.Flush()
		d := dice(ways)
		for range 300 {
			set, tag := d.below(4), uint64(d.below(2*ways))
			if a, b := touch(t, old, set, tag), touch(t, fresh, set, tag); a != b {
				t.Fatalf("%d ways: Touch(%d, %d) = %v, of a new one %v", ways, set, tag, a, b)
			}
			holds(t, old, fresh.Lines()...)
		}
	}
}

func TestP3_3Lines(t *testing.T) {
	c := made(t, 8, 3)
	for _, x := range []api.Line{{Set: 7, Tag: 1}, {Set: 2, Tag: 9}, {Set: 0, Tag: 4}, {Set: 7, Tag: 8}, {Set: 2, Tag: 3}, {Set: 7, Tag: 1}, {Set: 0, Tag: 5}, {Set: 0, Tag: 4}, {Set: 5, Tag: 0}} {
		touch(t, c, x.Set, x.Tag)
	}
	holds(t, c,
		api.Line{Set: 0, Tag: 4}, api.Line{Set: 0, Tag: 5},
		api.Line{Set: 2, Tag: 3}, api.Line{Set: 2, Tag: 9},
		api.Line{Set: 5, Tag: 0},
		api.Line{Set: 7, Tag: 1}, api.Line{Set: 7, Tag: 8})
}

// What is told is nobody else's: neither the cache's nor an earlier answer's.
func TestP3_3LinesAreNew(t *testing.T) {
	c := made(t, 2, 2)
	touch(t, c, 0, 1)
	touch(t, c, 1, 2)
	a, b := c.Lines(), c.Lines()
	want := slices.Clone(a)
	a[0], a[1] = api.Line{Set: 9, Tag: 9}, api.Line{Set: 8, Tag: 8}
	_ = append(a[:1], api.Line{Set: 7, Tag: 7})
	if !slices.Equal(b, want) {
		t.Errorf("two answers share: %v", b)
	}
	holds(t, c, want...)
	touch(t, c, 0, 5)
	c.Flush()
	if !slices.Equal(b, want) {
		t.Errorf("an answer changed later: %v", b)
	}
}

// A tag stays while fewer others than the ways were touched, how often ever, and goes with as many.
func TestP3_4Stays(t *testing.T) {
	for ways := 1; ways <= api.MaxWays; ways++ {
		c, d := made(t, 1, ways), dice(ways)
		for tag := range uint64(ways) { // a full set, in which all are older
			touch(t, c, 0, 1000+tag)
		}
		touch(t, c, 0, 77)
		for others := 1; others < ways; others++ {
			for range 50 {
				touch(t, c, 0, uint64(d.below(others)))
			}
			touch(t, c, 0, uint64(others-1))
			if !has(t, c, 0, 77) {
				t.Fatalf("%d ways: gone behind %d others", ways, others)
			}
		}
		for tag := range uint64(ways) {
			touch(t, c, 0, tag)
		}
		if has(t, c, 0, 77) {
			t.Errorf("%d ways: there behind %d others", ways, ways)
		}
	}
}

// Touches of all other sets turn nothing in a set, and what they answer is as if it were not there.
func TestP3_4SetsApart(t *testing.T) {
	for _, mine := range []int{0, 3, 7} {
		c, alone := made(t, 8, 4), made(t, 8, 4)
		d := dice(mine)
		for range 3000 {
			set, tag := d.below(8), uint64(d.below(9))
			hit := touch(t, c, set, tag)
			if set == mine && hit != touch(t, alone, set, tag) {
				t.Fatalf("Touch(%d, %d) = %v, but not so alone", set, tag, hit)
			}
			for tag := range uint64(9) {
				if has(t, c, mine, tag) != has(t, alone, mine, tag) {
					t.Fatalf("the set %d heard of a touch of %d", mine, set)
				}
			}
		}
		kept := slices.DeleteFunc(c.Lines(), func(l api.Line) bool { return l.Set != mine })
		holds(t, alone, kept...)
	}
}

func TestP3_4FewTagsAlwaysThere(t *testing.T) {
	for ways := 1; ways <= api.MaxWays; ways++ {
		for tags := 1; tags <= ways; tags++ {
			c, d := made(t, 2, ways), dice(tags)
			seen := make([]bool, tags)
			for range 10 * tags {
				tag := d.below(tags)
				if hit := touch(t, c, 1, uint64(tag)); hit != seen[tag] {
					t.Fatalf("%d ways, %d tags: Touch(1, %d) = %v", ways, tags, tag, hit)
				}
				seen[tag] = true
			}
		}
	}
}

// One tag more than the ways, in turn: each leaves just ahead of its own touch.
func TestP3_4OneTooMany(t *testing.T) {
	for ways := 1; ways <= api.MaxWays; ways++ {
		c := made(t, 1, ways)
		for i := range 5 * (ways + 1) {
			if touch(t, c, 0, uint64(i%(ways+1))) {
				t.Fatalf("%d ways: touch %d says true", ways, i)
			}
		}
	}
}

// Whatever went ahead, behind touches of as many tags of a set as there are ways it holds these alone.
func TestP3_4LastTouchesAlone(t *testing.T) {
	for ways := 1; ways <= api.MaxWays; ways++ {
		a, b := made(t, 4, ways), made(t, 4, ways)
		d, f := dice(ways), dice(1000+ways)
		for range 500 {
			touch(t, a, d.below(4), uint64(d.below(3*ways)))
		}
		for range 77 {
			touch(t, b, f.below(4), uint64(f.below(3*ways)))
		}
		for tag := range uint64(ways) {
			touch(t, a, 2, 2*tag)
			touch(t, b, 2, 2*tag)
		}
		for range 300 {
			tag := uint64(d.below(3 * ways))
			if x, y := touch(t, a, 2, tag), touch(t, b, 2, tag); x != y {
				t.Fatalf("%d ways: Touch(2, %d) = %v and %v", ways, tag, x, y)
			}
		}
		other := func(l api.Line) bool { return l.Set != 2 }
		x, y := slices.DeleteFunc(a.Lines(), other), slices.DeleteFunc(b.Lines(), other)
		if len(x) != ways || !slices.Equal(x, y) {
			t.Errorf("%d ways: %v and %v", ways, x, y)
		}
	}
}
