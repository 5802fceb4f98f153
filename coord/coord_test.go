package coord_test

import (
	"cmp"
	"errors"
	"fmt"
	"math/big"
	"math/rand"
	"slices"
	"testing"

	"cartulary/api"
	"cartulary/coord"
)

const (
	last     uint64 = 1 << 63 // where the last stretch that may be ends
	greatest uint64 = 1<<64 - 1
)

func tree(level uint8, index uint64) api.Coord { return api.Coord{Level: level, Index: index} }

func stretch(begin, end uint64) api.Span { return api.Span{Begin: begin, End: end} }

// tableErrors are the errors of the document's table, in its order.
func tableErrors() []error {
	return []error{
		api.ErrNil, api.ErrArg, api.ErrInput, api.ErrLimit, api.ErrRange, api.ErrGone, api.ErrUnavailable, api.ErrDead,
		api.ErrCorrupt, api.ErrProof, api.ErrSpent, api.ErrSigned, api.ErrFork, api.ErrOld, api.ErrStopped, api.ErrScript,
	}
}

// checkOnly: got is that error of the table, and no other one.
func checkOnly(t *testing.T, what string, got, want error) {
	t.Helper()
	for _, e := range tableErrors() {
		if errors.Is(got, e) != (e == want) {
			t.Fatalf("%s: got %v, want %v: errors.Is says %v of %v", what, got, want, errors.Is(got, e), e)
		}
	}
}

func large(n uint64) *big.Int { return new(big.Int).SetUint64(n) }

// times: n times 2 to the power of e, whatever its size.
func times(n uint64, e uint8) *big.Int { return new(big.Int).Lsh(large(n), uint(e)) }

// wantSpan: by the definition, in numbers that have no end.
func wantSpan(c api.Coord) (api.Span, bool) {
	begin := times(c.Index, c.Level)
	end := new(big.Int).Add(begin, times(1, c.Level))
	if c.Level > 63 || end.Cmp(large(last)) > 0 {
		return api.Span{}, false
	}
	return stretch(begin.Uint64(), end.Uint64()), true
}

// wantHas: whether all leaves of the second tree are leaves of the first; both may be.
func wantHas(c, other api.Coord) bool {
	s, _ := wantSpan(c)
	o, _ := wantSpan(other)
	return s.Begin <= o.Begin && o.End <= s.End
}

// wantAbove: the tree of that level that has c, by where its leaves stand.
func wantAbove(c api.Coord, level uint8) api.Coord {
	index := new(big.Int).Div(times(c.Index, c.Level), times(1, level))
	return tree(level, index.Uint64())
}

func show(c api.Coord) string { return fmt.Sprintf("%d/%d", c.Level, c.Index) }

// edgeIndexes: the first ones, those about the last that may be at that level, and the greatest.
func edgeIndexes(level uint8) []uint64 {
	l := []uint64{0, 1, 2, 3, 4, 5, 6, 7, 8, 255, 256, last - 2, last - 1, last, last + 1, greatest - 1, greatest}
	if level <= 63 {
		first := last >> level // the first one that may not be
		for _, half := range []uint64{first, first >> 1} {
			l = append(l, half-2, half-1, half, half+1, half+2)
		}
	}
	return l
}

// trees: of each level from 0 to 63, of some above, with indexes at the edges and by chance.
func trees() []api.Coord {
	rnd := rand.New(rand.NewSource(6))
	levels := []uint8{64, 65, 100, 126, 127, 128, 129, 191, 192, 254, 255}
	for level := range uint8(64) {
		levels = append(levels, level)
	}
	var all []api.Coord
	for _, level := range levels {
		for _, index := range edgeIndexes(level) {
			all = append(all, tree(level, index))
		}
		for range 8 {
			all = append(all, tree(level, rnd.Uint64()>>rnd.Intn(64)))
		}
	}
	slices.SortFunc(all, func(a, b api.Coord) int {
		return cmp.Or(cmp.Compare(a.Level, b.Level), cmp.Compare(a.Index, b.Index))
	})
	return slices.Compact(all)
}

// wholeTrees: those of trees that may be.
func wholeTrees() []api.Coord {
	return slices.DeleteFunc(trees(), func(c api.Coord) bool {
		_, ok := wantSpan(c)
		return !ok
	})
}

// brokenTrees: those of trees that may not be.
func brokenTrees() []api.Coord {
	return slices.DeleteFunc(trees(), func(c api.Coord) bool {
		_, ok := wantSpan(c)
		return ok
	})
}

// smallTrees: all that have no leaf from that end on, which is a power of two.
func smallTrees(end uint64) []api.Coord {
	var all []api.Coord
	for level := uint8(0); end>>level > 0; level++ {
		for index := range end >> level {
			all = append(all, tree(level, index))
		}
	}
	return all
}

// P6.1: Span

func checkSpan(t *testing.T, c api.Coord, want api.Span, wantOK bool) {
	t.Helper()
	if s, ok := coord.Span(c); s != want || ok != wantOK {
		t.Errorf("Span(%s) = %v, %v; want %v, %v", show(c), s, ok, want, wantOK)
	}
}

func TestSpanExamples(t *testing.T) {
	checkSpan(t, tree(0, 5), stretch(5, 6), true)
	checkSpan(t, tree(3, 1), stretch(8, 16), true)
	checkSpan(t, tree(63, 0), stretch(0, last), true)
	checkSpan(t, tree(63, 1), api.Span{}, false)
	checkSpan(t, tree(64, 0), api.Span{}, false)
	checkSpan(t, tree(0, last), api.Span{}, false)
}

func TestSpanOfEachLevel(t *testing.T) {
	for _, c := range trees() {
		s, ok := wantSpan(c)
		checkSpan(t, c, s, ok)
	}
	for level := range uint8(64) {
		first := last >> level
		checkSpan(t, tree(level, 0), stretch(0, 1<<level), true)
		checkSpan(t, tree(level, first-1), stretch(last-1<<level, last), true)
		checkSpan(t, tree(level, first), api.Span{}, false)
		checkSpan(t, tree(level, greatest), api.Span{}, false)
	}
}

// No level above 63 has a tree, not even of the index 0, where nothing would wrap.
func TestSpanOfLevelsThatAreNone(t *testing.T) {
	for level := 64; level < 256; level++ {
		for _, index := range edgeIndexes(uint8(level)) {
			checkSpan(t, tree(uint8(level), index), api.Span{}, false)
		}
	}
}

// P6.1: Of

func checkOf(t *testing.T, s api.Span, want api.Coord, wantOK bool) {
	t.Helper()
	if c, ok := coord.Of(s); c != want || ok != wantOK {
		t.Errorf("Of(%v) = %s, %v; want %s, %v", s, show(c), ok, show(want), wantOK)
	}
}

func checkNoTree(t *testing.T, s api.Span) {
	t.Helper()
	checkOf(t, s, api.Coord{}, false)
}

func TestOfExamples(t *testing.T) {
	checkOf(t, stretch(8, 16), tree(3, 1), true)
	checkOf(t, stretch(0, 1), tree(0, 0), true)
	checkNoTree(t, stretch(4, 12))
	checkNoTree(t, stretch(3, 3))
	checkNoTree(t, stretch(8, 4))
	checkOf(t, stretch(0, last), tree(63, 0), true)
	checkNoTree(t, stretch(last, last+1))
}

// wantOf: by going through all trees that begin there.
func wantOf(s api.Span) (api.Coord, bool) {
	for level := range uint8(64) {
		c := wantAbove(tree(0, s.Begin), level)
		if whole, ok := wantSpan(c); ok && whole == s {
			return c, true
		}
	}
	return api.Coord{}, false
}

func checkOfByDefinition(t *testing.T, s api.Span) {
	t.Helper()
	c, ok := wantOf(s)
	checkOf(t, s, c, ok)
}

func TestOfAllShortStretches(t *testing.T) {
	for _, from := range []uint64{0, 1<<32 - 35, 1<<62 - 35, last - 70, last - 35} {
		for begin := range uint64(71) {
			for end := range uint64(71) {
				checkOfByDefinition(t, stretch(from+begin, from+end))
			}
		}
	}
}

// One longer or shorter at either end, or moved by one: hardly any of these is a tree, and none that may not be.
func TestOfAboutTheStretchesOfTrees(t *testing.T) {
	for _, c := range wholeTrees() {
		s, _ := wantSpan(c)
		checkOf(t, s, c, true)
		for begin := range uint64(3) {
			for end := range uint64(3) {
				checkOfByDefinition(t, stretch(s.Begin+begin-1, s.End+end-1))
			}
		}
		checkNoTree(t, stretch(s.Begin, s.Begin))
		checkNoTree(t, stretch(s.End, s.End))
		checkNoTree(t, stretch(s.End, s.Begin))
	}
}

// Of twice as many leaves as the place where it begins lets a tree have, and of as many moved by half.
func TestOfStretchesThatBeginInTheMidst(t *testing.T) {
	for level := range uint8(63) {
		size := uint64(1) << level
		for _, begin := range []uint64{size, 3 * size, 5 * size, last - 3*size} {
			checkOfByDefinition(t, stretch(begin, begin+2*size))
			checkOfByDefinition(t, stretch(begin, begin+size))
		}
	}
}

func TestOfWhatMayNotBe(t *testing.T) {
	for _, s := range []api.Span{
		stretch(0, 0), stretch(1, 0), stretch(last, last), stretch(last, last-1), stretch(last, 0), stretch(last+1, last),
		stretch(0, last+1), stretch(1, last+1), stretch(last-1, last+1), stretch(last+1, last+2), stretch(last, last+2),
		stretch(last, greatest), stretch(greatest, 0), stretch(greatest, greatest), stretch(greatest-1, greatest),
		stretch(0, greatest), stretch(last+1<<62, 0), stretch(last, last+1<<62), stretch(greatest, 1), stretch(1, last),
	} {
		checkNoTree(t, s)
	}
	for level := range uint8(63) {
		checkNoTree(t, stretch(last, last+1<<level))
		checkNoTree(t, stretch(greatest-1<<level+1, 0)) // would be one, if ends wrapped round
	}
}

// P6.2

func checkParent(t *testing.T, c, want api.Coord, wantOK bool) {
	t.Helper()
	if p, ok := coord.Parent(c); p != want || ok != wantOK {
		t.Errorf("Parent(%s) = %s, %v; want %s, %v", show(c), show(p), ok, show(want), wantOK)
	}
}

func checkSibling(t *testing.T, c, want api.Coord, wantOK bool) {
	t.Helper()
	if s, ok := coord.Sibling(c); s != want || ok != wantOK {
		t.Errorf("Sibling(%s) = %s, %v; want %s, %v", show(c), show(s), ok, show(want), wantOK)
	}
}

func checkChildren(t *testing.T, c, wantLeft, wantRight api.Coord, wantOK bool) {
	t.Helper()
	if l, r, ok := coord.Children(c); l != wantLeft || r != wantRight || ok != wantOK {
		t.Errorf("Children(%s) = %s, %s, %v; want %s, %s, %v", show(c), show(l), show(r), ok, show(wantLeft), show(wantRight), wantOK)
	}
}

func TestFamilyExamples(t *testing.T) {
	none := api.Coord{}
	checkParent(t, tree(0, 5), tree(1, 2), true)
	checkParent(t, tree(62, 1), tree(63, 0), true)
	checkParent(t, tree(63, 0), none, false)
	checkParent(t, tree(0, last), none, false)
	checkSibling(t, tree(0, 5), tree(0, 4), true)
	checkSibling(t, tree(3, 0), tree(3, 1), true)
	checkSibling(t, tree(63, 0), none, false)
	checkChildren(t, tree(3, 1), tree(2, 2), tree(2, 3), true)
	checkChildren(t, tree(0, 7), none, none, false)
	checkChildren(t, tree(63, 0), tree(62, 0), tree(62, 1), true)
}

// Held against where their leaves stand: the halves of a stretch are cut in its midst.
func TestChildrenOfEachLevel(t *testing.T) {
	for _, c := range wholeTrees() {
		s, _ := wantSpan(c)
		if c.Level == 0 {
			checkChildren(t, c, api.Coord{}, api.Coord{}, false)
			continue
		}
		half := s.Begin + (s.End-s.Begin)/2
		left, one := wantOf(stretch(s.Begin, half))
		right, other := wantOf(stretch(half, s.End))
		checkChildren(t, c, left, right, one && other)
	}
}

func TestParentAndSiblingOfEachLevel(t *testing.T) {
	for _, c := range wholeTrees() {
		if c.Level == 63 {
			checkParent(t, c, api.Coord{}, false)
			checkSibling(t, c, api.Coord{}, false)
			continue
		}
		parent := wantAbove(c, c.Level+1)
		checkParent(t, c, parent, true)
		s, _ := wantSpan(c)
		all, _ := wantSpan(parent)
		other := stretch(all.Begin, s.Begin)
		if s.Begin == all.Begin {
			other = stretch(s.End, all.End)
		}
		sibling, _ := wantOf(other)
		checkSibling(t, c, sibling, true)
	}
}

func checkNoFamily(t *testing.T, c api.Coord) {
	t.Helper()
	checkParent(t, c, api.Coord{}, false)
	checkSibling(t, c, api.Coord{}, false)
	checkChildren(t, c, api.Coord{}, api.Coord{}, false)
}

func TestFamilyOfWhatMayNotBe(t *testing.T) {
	for _, c := range brokenTrees() {
		checkNoFamily(t, c)
	}
	for level := range uint8(64) {
		checkNoFamily(t, tree(level, last>>level))
		checkNoFamily(t, tree(level, greatest))
	}
	for level := 64; level < 256; level++ {
		checkNoFamily(t, tree(uint8(level), 0))
		checkNoFamily(t, tree(uint8(level), 1))
		checkNoFamily(t, tree(uint8(level), greatest))
	}
}

// P6.3

func cover(t *testing.T, s api.Span) []api.Coord {
	t.Helper()
	l, err := coord.Cover(s)
	if err != nil {
		t.Fatalf("Cover(%v): %v", s, err)
	}
	return l
}

func checkCover(t *testing.T, s api.Span, want ...api.Coord) {
	t.Helper()
	if l := cover(t, s); !slices.Equal(l, want) {
		t.Errorf("Cover(%v) = %v; want %v", s, l, want)
	}
}

func checkNoCover(t *testing.T, s api.Span) {
	t.Helper()
	l, err := coord.Cover(s)
	checkOnly(t, fmt.Sprintf("Cover(%v)", s), err, api.ErrRange)
	var f *api.Fault
	if errors.As(err, &f) && f.At != 0 {
		t.Errorf("Cover(%v) tells the place %d", s, f.At)
	}
	if len(l) != 0 {
		t.Errorf("Cover(%v) = %v beside an error", s, l)
	}
}

func TestCoverExamples(t *testing.T) {
	checkCover(t, stretch(0, 5), tree(2, 0), tree(0, 4))
	checkCover(t, stretch(1, 7), tree(0, 1), tree(1, 1), tree(1, 2), tree(0, 6))
	checkCover(t, stretch(3, 3))
	checkNoCover(t, stretch(6, 5))
	checkNoCover(t, stretch(0, last+1))
	var up []api.Coord
	for level := range uint8(63) {
		up = append(up, tree(level, 1))
	}
	checkCover(t, stretch(1, last), up...)
}

func TestCoverOfAllLeaves(t *testing.T) {
	checkCover(t, stretch(0, last), tree(63, 0))
	checkCover(t, stretch(0, last>>1), tree(62, 0))
	checkCover(t, stretch(last>>1, last), tree(62, 1))
	checkCover(t, stretch(last-1, last), tree(0, last-1))
}

// The longest one: up to the midst and down again.
func TestCoverWithoutEitherEnd(t *testing.T) {
	var all []api.Coord
	for level := range uint8(62) {
		all = append(all, tree(level, 1))
	}
	for level := 61; level >= 0; level-- {
		all = append(all, tree(uint8(level), last>>level-2))
	}
	checkCover(t, stretch(1, last-1), all...)
	if len(all) != 124 {
		t.Errorf("%d trees", len(all))
	}
}

func TestCoverOfNone(t *testing.T) {
	for _, at := range []uint64{0, 1, 2, 3, 255, 1 << 32, 1 << 62, last - 1, last} {
		checkCover(t, stretch(at, at))
	}
}

func TestCoverOfWhatMayNotBe(t *testing.T) {
	for _, s := range []api.Span{
		stretch(1, 0), stretch(2, 1), stretch(last, last-1), stretch(last, 0), stretch(last-1, 0), stretch(last+1, last),
		stretch(last+1, last+1), stretch(last, last+1), stretch(last+1, last+2), stretch(1, last+1), stretch(last+1, 0),
		stretch(last-1, last+1), stretch(0, greatest), stretch(1, greatest), stretch(greatest, greatest), stretch(greatest, 0),
		stretch(greatest, greatest-1), stretch(last, greatest), stretch(greatest-1, greatest), stretch(greatest, last),
	} {
		checkNoCover(t, s)
	}
}

// wantCovers: for each length up to most, the fewest whole trees from begin on, and by how many rows of so many it can be done.
func wantCovers(begin uint64, most int) (rows [][]api.Coord, ways []int) {
	rows, ways = make([][]api.Coord, most+1), make([]int, most+1)
	ways[0] = 1
	for length := range most {
		for level := range uint8(10) {
			c := tree(level, (begin+uint64(length))>>level)
			s, _ := wantSpan(c)
			next := length + 1<<level
			if s.Begin != begin+uint64(length) || next > most {
				continue
			}
			row := append(slices.Clone(rows[length]), c)
			switch {
			case ways[next] == 0 || len(row) < len(rows[next]):
				rows[next], ways[next] = row, ways[length]
			case len(row) == len(rows[next]):
				ways[next] += ways[length]
			}
		}
	}
	return rows, ways
}

// All short stretches, from the first leaf on, about the midst, and up to the last one.
func TestCoverOfAllShortStretches(t *testing.T) {
	const most = 140
	for _, from := range []uint64{0, 1<<20 - most/2, 1<<32 - most/2, 1<<62 - most/2, last - most} {
		for begin := from; begin <= from+most; begin++ {
			length := int(from + most - begin)
			rows, ways := wantCovers(begin, length)
			for n, row := range rows {
				if ways[n] != 1 {
					t.Fatalf("%d rows of trees from %d on, %d leaves", ways[n], begin, n)
				}
				checkCover(t, stretch(begin, begin+uint64(n)), row...)
			}
		}
	}
}

func TestCoverOfATree(t *testing.T) {
	for _, c := range wholeTrees() {
		s, _ := wantSpan(c)
		checkCover(t, s, c)
	}
}

// someStretches: long ones, with ends at the edges and by chance.
func someStretches() []api.Span {
	rnd := rand.New(rand.NewSource(7))
	ends := []uint64{0, 1, 2, 3, 1<<32 - 1, 1 << 32, 1<<62 - 1, 1 << 62, 1<<62 + 1, last - 2, last - 1, last}
	for range 60 {
		ends = append(ends, rnd.Uint64()>>(1+rnd.Intn(63)), last-rnd.Uint64()>>(1+rnd.Intn(63)))
	}
	var all []api.Span
	for _, begin := range ends {
		for _, end := range ends {
			if begin <= end {
				all = append(all, stretch(begin, end))
			}
		}
	}
	return all
}

// R4: what one call gives is memory of its own, spare room too.
func TestCoverIsNewMemory(t *testing.T) {
	for _, s := range []api.Span{stretch(0, 5), stretch(1, 7), stretch(1, last-1), stretch(0, last)} {
		first := cover(t, s)
		want := slices.Clone(first)
		second := cover(t, s)
		room := first[:cap(first)]
		for i := range room {
			room[i] = tree(77, 77)
		}
		for _, c := range second[:cap(second)] {
			if c == tree(77, 77) {
				t.Fatalf("two answers of Cover(%v) share memory", s)
			}
		}
		checkCover(t, s, want...)
	}
}

// P6.4

func checkCommon(t *testing.T, a, b, want api.Coord, wantOK bool) {
	t.Helper()
	for range 2 { // both ways round
		if c, ok := coord.Common(a, b); c != want || ok != wantOK {
			t.Errorf("Common(%s, %s) = %s, %v; want %s, %v", show(a), show(b), show(c), ok, show(want), wantOK)
		}
		a, b = b, a
	}
}

func TestCommonExamples(t *testing.T) {
	checkCommon(t, tree(0, 0), tree(0, 3), tree(2, 0), true)
	checkCommon(t, tree(0, 2), tree(1, 1), tree(1, 1), true)
	checkCommon(t, tree(2, 0), tree(0, 4), tree(3, 0), true)
	checkCommon(t, tree(0, 0), tree(0, last-1), tree(63, 0), true)
	checkCommon(t, tree(0, 0), tree(64, 0), api.Coord{}, false)
}

// All pairs of small trees: of all trees that have both, that with the fewest leaves.
func TestCommonOfAllSmallTrees(t *testing.T) {
	all := smallTrees(32)
	for _, a := range all {
		for _, b := range all {
			var least []api.Coord
			for _, c := range all {
				if !wantHas(c, a) || !wantHas(c, b) {
					continue
				}
				if len(least) == 0 || c.Level < least[0].Level {
					least = nil
				}
				if len(least) == 0 || c.Level == least[0].Level {
					least = append(least, c)
				}
			}
			if len(least) != 1 {
				t.Fatalf("%d least trees have %s and %s", len(least), show(a), show(b))
			}
			checkCommon(t, a, b, least[0], true)
		}
	}
}

// wantCommon: the lowest of the trees that have a, if it has b too.
func wantCommon(a, b api.Coord) api.Coord {
	for level := a.Level; level < 63; level++ {
		if c := wantAbove(a, level); wantHas(c, b) {
			return c
		}
	}
	return tree(63, 0)
}

func TestCommonOfTreesOfEachLevel(t *testing.T) {
	all := wholeTrees()
	for i, a := range all {
		for j := i % 31; j < len(all); j += 31 {
			checkCommon(t, a, all[j], wantCommon(a, all[j]), true)
		}
	}
}

func TestCommonOfTreesFarApart(t *testing.T) {
	for level := range uint8(63) {
		end := last >> level
		checkCommon(t, tree(level, 0), tree(level, end-1), tree(63, 0), true)
		checkCommon(t, tree(level, end/2-1), tree(level, end/2), tree(63, 0), true)
		checkCommon(t, tree(0, 0), tree(level, end-1), tree(63, 0), true)
		checkCommon(t, tree(0, 0), tree(0, 1<<level), tree(level+1, 0), true)
		checkCommon(t, tree(0, last-1), tree(0, last-1-1<<level), tree(level+1, end/2-1), true)
	}
}

// Of a tree and one that has it it is that one; of a tree and itself it is the tree.
func TestCommonOfOneThatHasTheOther(t *testing.T) {
	for _, c := range wholeTrees() {
		for level := c.Level; level <= 63; level++ {
			checkCommon(t, c, wantAbove(c, level), wantAbove(c, level), true)
		}
	}
}

func TestCommonWhereOneMayNotBe(t *testing.T) {
	whole := []api.Coord{tree(0, 0), tree(0, 1), tree(0, last-1), tree(5, 3), tree(62, 1), tree(63, 0)}
	for _, c := range brokenTrees() {
		for _, other := range whole {
			checkCommon(t, c, other, api.Coord{}, false)
		}
		checkCommon(t, c, c, api.Coord{}, false)
		checkCommon(t, c, tree(64, 0), api.Coord{}, false)
		checkCommon(t, c, tree(0, last), api.Coord{}, false)
		checkCommon(t, c, tree(255, greatest), api.Coord{}, false)
	}
}

// P6.5

func checkCmp(t *testing.T, a, b api.Coord, want int) {
	t.Helper()
	if n := coord.Cmp(a, b); n != want {
		t.Errorf("Cmp(%s, %s) = %d; want %d", show(a), show(b), n, want)
	}
	if n := coord.Cmp(b, a); n != -want {
		t.Errorf("Cmp(%s, %s) = %d; want %d", show(b), show(a), n, -want)
	}
}

func wantCmp(a, b api.Coord) int {
	return cmp.Or(times(a.Index, a.Level).Cmp(times(b.Index, b.Level)), cmp.Compare(b.Level, a.Level))
}

func TestCmpExamples(t *testing.T) {
	checkCmp(t, tree(0, 0), tree(0, 1), -1)
	checkCmp(t, tree(1, 0), tree(0, 0), -1)
	checkCmp(t, tree(0, 2), tree(1, 1), 1)
	checkCmp(t, tree(3, 1), tree(3, 1), 0)
	checkCmp(t, tree(255, 1), tree(0, greatest), 1)
	checkCmp(t, tree(255, 0), tree(0, 0), -1)
}

func TestCmpOfAllSmallTrees(t *testing.T) {
	all := smallTrees(32)
	for _, a := range all {
		for _, b := range all {
			checkCmp(t, a, b, wantCmp(a, b))
		}
	}
}

// Those that may be and those that may not, each with each, where they begin as a whole number.
func TestCmpOfTreesOfEachLevel(t *testing.T) {
	all := trees()
	for i, a := range all {
		checkCmp(t, a, a, 0)
		for j := i % 3; j < i; j += 3 {
			checkCmp(t, a, all[j], wantCmp(a, all[j]))
		}
	}
}

// Of each two levels: those that begin at one place, and those one leaf or tree beside it.
func TestCmpAboutOnePlace(t *testing.T) {
	for high := 1; high < 256; high++ {
		for low := range high {
			up, far := uint8(high), uint8(low)
			checkCmp(t, tree(up, 0), tree(far, 0), -1)
			checkCmp(t, tree(up, 0), tree(far, 1), -1)
			checkCmp(t, tree(up, 1), tree(far, 0), 1)
			if apart := high - low; apart < 64 {
				same := uint64(1) << apart
				checkCmp(t, tree(up, 1), tree(far, same), -1)
				checkCmp(t, tree(up, 1), tree(far, same-1), 1)
				checkCmp(t, tree(up, 1), tree(far, same+1), -1)
				checkCmp(t, tree(up, greatest>>apart), tree(far, greatest>>apart<<apart), -1)
				checkCmp(t, tree(up, greatest>>apart), tree(far, greatest), -1)
				checkCmp(t, tree(up, greatest>>apart+1), tree(far, greatest), 1)
			} else {
				checkCmp(t, tree(up, 1), tree(far, greatest), 1)
			}
		}
	}
}

// P6.6

func TestOfUndoesSpan(t *testing.T) {
	for _, c := range wholeTrees() {
		s, ok := coord.Span(c)
		if back, found := coord.Of(s); !ok || !found || back != c {
			t.Errorf("Of(Span(%s)) = %s, %v", show(c), show(back), found)
		}
	}
}

func TestFamilyFollows(t *testing.T) {
	for _, c := range wholeTrees() {
		if left, right, ok := coord.Children(c); ok {
			for _, child := range []api.Coord{left, right} {
				if p, found := coord.Parent(child); !found || p != c {
					t.Errorf("Parent(%s) = %s; it is a child of %s", show(child), show(p), show(c))
				}
			}
			if s, found := coord.Sibling(left); !found || s != right {
				t.Errorf("Sibling(%s) = %s; want %s", show(left), show(s), show(right))
			}
		}
		if s, ok := coord.Sibling(c); ok {
			if back, found := coord.Sibling(s); !found || back != c {
				t.Errorf("Sibling(Sibling(%s)) = %s", show(c), show(back))
			}
		}
	}
}

// halvesOfOne: whether the two are, the left one first, both halves of one tree.
func halvesOfOne(a, b api.Coord) bool {
	s, ok := coord.Sibling(a)
	return ok && s == b && a.Index < b.Index
}

// checkRow: side by side, from begin to end, rising by Cmp, no two neighbours halves of one.
func checkRow(t *testing.T, s api.Span, row []api.Coord) {
	t.Helper()
	at := s.Begin
	for i, c := range row {
		part, ok := coord.Span(c)
		if !ok || part.Begin != at {
			t.Fatalf("Cover(%v) = %v: %s does not begin at %d", s, row, show(c), at)
		}
		at = part.End
		if i > 0 && (coord.Cmp(row[i-1], c) != -1 || halvesOfOne(row[i-1], c)) {
			t.Fatalf("Cover(%v) = %v: %s and %s do not rise, or are both halves of one", s, row, show(row[i-1]), show(c))
		}
	}
	if at != s.End {
		t.Fatalf("Cover(%v) = %v ends at %d", s, row, at)
	}
}

// checkLevels: they rise, and then fall; two in the middle may be the same.
func checkLevels(t *testing.T, s api.Span, row []api.Coord) {
	t.Helper()
	i := 1
	for i < len(row) && row[i-1].Level < row[i].Level {
		i++
	}
	if i < len(row) && row[i-1].Level == row[i].Level {
		i++
	}
	for i < len(row) && row[i-1].Level > row[i].Level {
		i++
	}
	if i < len(row) {
		t.Fatalf("Cover(%v) = %v: the levels do not rise and then fall", s, row)
	}
}

func TestRowsOfCovers(t *testing.T) {
	for _, s := range someStretches() {
		row := cover(t, s)
		checkRow(t, s, row)
		checkLevels(t, s, row)
	}
}

// joined: again and again, two neighbours that are both halves of one are replaced by it.
func joined(row []api.Coord) []api.Coord {
	var out []api.Coord
	for _, c := range row {
		out = append(out, c)
		for n := len(out); n > 1 && halvesOfOne(out[n-2], out[n-1]); n = len(out) {
			parent, _ := coord.Parent(out[n-1])
			out = append(out[:n-2], parent)
		}
	}
	return out
}

func checkJoined(t *testing.T, begin, middle, end uint64) {
	t.Helper()
	left, right := cover(t, stretch(begin, middle)), cover(t, stretch(middle, end))
	checkCover(t, stretch(begin, end), joined(slices.Concat(left, right))...)
}

func TestCoversSideBySide(t *testing.T) {
	for begin := range uint64(34) {
		for middle := begin; middle < 34; middle++ {
			for end := middle; end < 34; end++ {
				checkJoined(t, begin, middle, end)
				checkJoined(t, last-end, last-middle, last-begin)
			}
		}
	}
	rnd := rand.New(rand.NewSource(8))
	for _, s := range someStretches() {
		if s.Begin < s.End {
			checkJoined(t, s.Begin, s.Begin+rnd.Uint64()%(s.End-s.Begin), s.End)
		}
	}
}

// upward: the tree, and those that one meets from it upward.
func upward(c api.Coord) []api.Coord {
	way := []api.Coord{c}
	for p, ok := coord.Parent(c); ok; p, ok = coord.Parent(p) {
		way = append(way, p)
	}
	return way
}

func TestCommonIsTheFirstThatIsMet(t *testing.T) {
	all := wholeTrees()
	for i, a := range all {
		for j := i % 23; j < len(all); j += 23 {
			b := all[j]
			met := upward(b)
			first := slices.IndexFunc(upward(a), func(c api.Coord) bool { return slices.Contains(met, c) })
			checkCommon(t, a, b, upward(a)[first], true)
		}
	}
}

// The order is one: what is sorted by Cmp rises all through, and each stands ahead of all behind it.
func TestSortedByCmp(t *testing.T) {
	all := trees()
	rand.New(rand.NewSource(9)).Shuffle(len(all), func(i, j int) { all[i], all[j] = all[j], all[i] })
	slices.SortFunc(all, coord.Cmp)
	for i := range all {
		for j := i + 1; j < len(all); j += 1 + i%7 {
			if coord.Cmp(all[i], all[j]) != -1 {
				t.Fatalf("%s stands ahead of %s", show(all[i]), show(all[j]))
			}
		}
	}
}
