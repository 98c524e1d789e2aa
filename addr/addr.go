// Package addr is layer 1: addresses, and what their bits say (see shared/doc/01-addr.md).
package addr

import (
	"cmp"
	"slices"

	"cofferdam/api"
)

// The levels of tables; only the first and the last one are named, for all that is asked of a level is whether it lies between them.
const (
	leaf = iota
	_
	_
	root
)

// The widths of fields, in bits: each is some hex digits, and no field has four of them.
const (
	lineBits  = 4 * (iota + 1) // of a byte's place in its line
	offBits                    // of a byte's place in its page, or frame
	frameBits                  // of a frame's number
	_
	pageBits // of a page's number
)

// entryBits is the width of an entry's number: the levels share a page's number evenly.
const entryBits = pageBits / api.Levels

func pageMayBe(page int) bool   { return page >= 0 && page < 1<<pageBits }
func offMayBe(off int) bool     { return off >= 0 && off < 1<<offBits }
func levelMayBe(level int) bool { return level >= leaf && level <= root }
func frameMayBe(frame int) bool { return frame >= 0 && frame < 1<<frameBits }

// spanMayBe takes N from the limit instead of adding it to Page: a sum could wrap round.
func spanMayBe(s api.Span) bool {
	return s.Page >= 0 && s.N >= 0 && s.Page <= api.MaxPages-s.N
}

// cut parts an address into the number above its offset, and the offset.
func cut(a uint64) (number, off int) {
	return int(a >> offBits), int(a & (1<<offBits - 1))
}

// put is cut's way back.
func put(number, off int) uint64 {
	return uint64(number)<<offBits | uint64(off)
}

// tableOf is Table's answer for a page and a level that may be.
func tableOf(page, level int) int {
	return page >> (entryBits * (level + 1))
}

// Split is a virtual address's page and offset.
func Split(va uint64) (page, off int, e api.Errno) {
	if va>>(pageBits+offBits) != 0 {
		return 0, 0, api.ErrAddr
	}
	page, off = cut(va)
	return page, off, api.OK
}

// Join is the virtual address of a page and an offset.
func Join(page, off int) (uint64, api.Errno) {
	if !pageMayBe(page) || !offMayBe(off) {
		return 0, api.ErrArg
	}
	return put(page, off), api.OK
}

// Index is the number of a page's entry in its table of a level.
func Index(page, level int) (int, api.Errno) {
	if !pageMayBe(page) || !levelMayBe(level) {
		return 0, api.ErrArg
	}
	return page >> (entryBits * level) & (1<<entryBits - 1), api.OK
}

// Table is the number of a page's table of a level, among those of that level.
func Table(page, level int) (int, api.Errno) {
	if !pageMayBe(page) || !levelMayBe(level) {
		return 0, api.ErrArg
	}
	return tableOf(page, level), api.OK
}

// Tables is how many tables the pages of all spans need, the root among them.
func Tables(l []api.Span) (int, api.Errno) {
	if len(l) > api.MaxRegions {
		return 0, api.ErrMany
	}
	rising := make([]api.Span, 0, len(l))
	for _, s := range l {
		if !spanMayBe(s) {
			return 0, api.ErrArg
		}
		if s.N > 0 {
			rising = append(rising, s)
		}
	}
	slices.SortFunc(rising, func(a, b api.Span) int { return cmp.Compare(a.Page, b.Page) })
	n := 1 // the root is there even if no page is
	for level := leaf; level < root; level++ {
		n += tablesOf(rising, level)
	}
	return n, api.OK
}

// tablesOf counts the tables of one level that spans with pages need. Because their first pages rise, a table is counted already just if it lies below the first one that is not.
func tablesOf(rising []api.Span, level int) int {
	n, fresh := 0, 0
	for _, s := range rising {
		from := max(fresh, tableOf(s.Page, level))
		to := tableOf(s.Page+s.N-1, level) + 1
		if from < to {
			n += to - from
			fresh = to
		}
	}
	return n
}

// Place is the physical address of a frame's byte.
func Place(frame, off int) (uint64, api.Errno) {
	if !frameMayBe(frame) || !offMayBe(off) {
		return 0, api.ErrArg
	}
	return put(frame, off), api.OK
}

// Frame is a physical address's frame and offset.
func Frame(pa uint64) (frame, off int, e api.Errno) {
	if pa>>(frameBits+offBits) != 0 {
		return 0, 0, api.ErrAddr
	}
	frame, off = cut(pa)
	return frame, off, api.OK
}

// Line is the number of a physical address's line.
func Line(pa uint64) (int, api.Errno) {
	if pa>>(frameBits+offBits) != 0 {
		return 0, api.ErrAddr
	}
	return int(pa >> lineBits), api.OK
}

// Run is where bytes lie that do not leave their page.
func Run(va uint64, size int) (page, off int, e api.Errno) {
	page, off, e = Split(va)
	if e != api.OK {
		return 0, 0, e
	}
	if size < 1 || size > api.MaxSize || off+size > 1<<offBits {
		return 0, 0, api.ErrArg
	}
	return page, off, api.OK
}
