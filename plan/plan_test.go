package plan_test

import (
	"crypto/sha256"
	"errors"
	"fmt"
	"math/big"
	"math/rand"
	"slices"
	"strconv"
	"testing"

	"cartulary/api"
	"cartulary/bits"
	"cartulary/hash"
	"cartulary/naive"
	"cartulary/plan"
	"cartulary/shape"
	"cartulary/tile"
)

const (
	most     uint64 = 1 << 63 // the greatest size
	greatest uint64 = 1<<64 - 1
)

func tree(level uint8, index uint64) api.Coord { return api.Coord{Level: level, Index: index} }

func stretch(begin, end uint64) api.Span { return api.Span{Begin: begin, End: end} }

func part(trees ...api.Coord) api.Part { return api.Part{Coords: trees} }

func tileOf(level uint8, index uint64, width int) api.Tile {
	return api.Tile{Level: level, Index: index, Width: width}
}

// tableErrors are the errors of the document's table, in its order.
func tableErrors() []error {
	return []error{
		api.ErrNil, api.ErrArg, api.ErrInput, api.ErrLimit, api.ErrRange, api.ErrGone, api.ErrUnavailable, api.ErrDead,
		api.ErrCorrupt, api.ErrProof, api.ErrSpent, api.ErrSigned, api.ErrFork, api.ErrOld, api.ErrStopped, api.ErrScript,
	}
}

// checkOnly: got is that error of the table, no other one, and tells no place.
func checkOnly(t *testing.T, what string, got, want error) {
	t.Helper()
	for _, e := range tableErrors() {
		if errors.Is(got, e) != (e == want) {
			t.Fatalf("%s: got %v, want %v: errors.Is says %v of %v", what, got, want, errors.Is(got, e), e)
		}
	}
	var f *api.Fault
	if errors.As(got, &f) && f.At != 0 {
		t.Errorf("%s tells the place %d", what, f.At)
	}
}

// checkRefused: ErrRange, and nothing beside it.
func checkRefused[T any](t *testing.T, what string, got []T, err error) {
	t.Helper()
	checkOnly(t, what, err, api.ErrRange)
	if len(got) != 0 {
		t.Errorf("%s = %v beside an error", what, got)
	}
}

func samePart(a, b api.Part) bool { return slices.Equal(a.Coords, b.Coords) }

func checkParts(t *testing.T, what string, got []api.Part, err error, want ...api.Part) {
	t.Helper()
	if err != nil || !slices.EqualFunc(got, want, samePart) {
		t.Fatalf("%s = %v, %v; want %v", what, got, err, want)
	}
}

func checkRoot(t *testing.T, size uint64, want ...api.Coord) {
	t.Helper()
	got, err := plan.Root(size)
	if err != nil || !slices.Equal(got.Coords, want) {
		t.Fatalf("Root(%d) = %v, %v; want %v", size, got, err, want)
	}
}

func checkNoRoot(t *testing.T, size uint64) {
	t.Helper()
	got, err := plan.Root(size)
	checkRefused(t, fmt.Sprintf("Root(%d)", size), got.Coords, err)
}

// The three calls of chapter 15 beside those of chapter 7, each with what it was asked.
type query struct {
	what      string
	parts     []api.Part
	err       error
	stretches []api.Span
	shapeErr  error
}

func askPath(index, size uint64) query {
	parts, err := plan.Path(index, size)
	stretches, shapeErr := shape.Path(index, size)
	return query{fmt.Sprintf("Path(%d, %d)", index, size), parts, err, stretches, shapeErr}
}

func askProof(old, size uint64) query {
	parts, err := plan.Proof(old, size)
	stretches, shapeErr := shape.Proof(old, size)
	return query{fmt.Sprintf("Proof(%d, %d)", old, size), parts, err, stretches, shapeErr}
}

func askBatch(begin, end, size uint64) query {
	parts, err := plan.Batch(begin, end, size)
	stretches, shapeErr := shape.Batch(begin, end, size)
	return query{fmt.Sprintf("Batch(%d, %d, %d)", begin, end, size), parts, err, stretches, shapeErr}
}

func (q query) check(t *testing.T, want ...api.Part) {
	t.Helper()
	checkParts(t, q.what, q.parts, q.err, want...)
}

func (q query) checkNone(t *testing.T) {
	t.Helper()
	checkRefused(t, q.what, q.parts, q.err)
}

// checkByShape: refused just where chapter 7 refuses it, else the covers of its stretches, in their order.
func (q query) checkByShape(t *testing.T) {
	t.Helper()
	if q.shapeErr != nil {
		q.checkNone(t)
		return
	}
	var want []api.Part
	for _, s := range q.stretches {
		want = append(want, part(wantCover(s)...))
	}
	q.check(t, want...)
}

// wantCover: from the left, at each place the greatest whole tree that begins there and does not go over the end. The stretch may be.
func wantCover(s api.Span) []api.Coord {
	var all []api.Coord
	for at := s.Begin; at < s.End; {
		level := 63
		for at%(1<<level) != 0 || s.End-at < 1<<level {
			level--
		}
		all = append(all, tree(uint8(level), at>>level))
		at += 1 << level
	}
	return all
}

func checkTiles(t *testing.T, l []api.Part, size uint64, want ...api.Tile) {
	t.Helper()
	got, err := plan.Tiles(l, size)
	if err != nil || !slices.Equal(got, want) {
		t.Fatalf("Tiles(%v, %d) = %v, %v; want %v", l, size, got, err, want)
	}
}

func checkNoTiles(t *testing.T, l []api.Part, size uint64) {
	t.Helper()
	got, err := plan.Tiles(l, size)
	checkRefused(t, fmt.Sprintf("Tiles(%v, %d)", l, size), got, err)
}

func large(n uint64) *big.Int { return new(big.Int).SetUint64(n) }

// wantEnd: where a tree's leaves end, whatever that number's size; false, if the tree may not be.
func wantEnd(c api.Coord) (*big.Int, bool) {
	end := new(big.Int).Lsh(new(big.Int).Add(large(c.Index), large(1)), uint(c.Level))
	return end, c.Level <= 63 && end.Cmp(large(most)) <= 0
}

// wantTile: by the words of chapter 11: the nodes of each eighth level are cut into pieces of 256. False, if a log of so many leaves has no such tree.
func wantTile(c api.Coord, size uint64) (api.Tile, bool) {
	end, ok := wantEnd(c)
	if !ok || size > most || end.Cmp(large(size)) > 0 {
		return api.Tile{}, false
	}
	row := c.Level / 8
	nodes := size >> (8 * row)
	first := c.Index << c.Level >> (8 * row) / 256 * 256 // of the tile's nodes
	return tileOf(row, first/256, int(min(nodes-first, 256))), true
}

// wantTiles: tree by tree; a tile that stands in the list by now is not put there again.
func wantTiles(l []api.Part, size uint64) ([]api.Tile, bool) {
	var all []api.Tile
	for _, p := range l {
		for _, c := range p.Coords {
			x, ok := wantTile(c, size)
			if !ok {
				return nil, false
			}
			if !slices.Contains(all, x) {
				all = append(all, x)
			}
		}
	}
	return all, size <= most
}

func checkTilesByDefinition(t *testing.T, l []api.Part, size uint64) {
	t.Helper()
	if want, ok := wantTiles(l, size); ok {
		checkTiles(t, l, size, want...)
	} else {
		checkNoTiles(t, l, size)
	}
}

// greatSizes: powers of two and their neighbours up to the greatest size, and some by chance.
func greatSizes() []uint64 {
	rnd := rand.New(rand.NewSource(15))
	all := []uint64{1, most - 2, most - 1, most}
	for e := 1; e < 63; e++ {
		p := uint64(1) << e
		all = append(all, p-1, p, p+1, p+p/2, rnd.Uint64()>>(64-e)|1, most-p)
	}
	slices.Sort(all)
	return slices.Compact(all)
}

// within: numbers from 0 to size: the first and the last ones, those about the split and about a tile's edge, some by chance.
func within(size uint64, rnd *rand.Rand) []uint64 {
	k, _ := bits.Below(size)
	all := []uint64{0, 1, 2, 3, 255, 256, 257, size / 3, size / 2, k / 2, k - 1, k, k + 1, size - 257, size - 256, size - 2, size - 1, size}
	for range 4 {
		all = append(all, rnd.Uint64()%size, rnd.Uint64()%size>>rnd.Intn(63))
	}
	all = slices.DeleteFunc(all, func(n uint64) bool { return n > size })
	slices.Sort(all)
	return slices.Compact(all)
}

// noSizes: of those above the greatest one.
func noSizes() []uint64 {
	all := []uint64{greatest, greatest - 1, most + most/2}
	for e := range 63 {
		all = append(all, most+1<<e)
	}
	return all
}

// P15.1

func TestRootExamples(t *testing.T) {
	checkRoot(t, 0)
	checkRoot(t, 5, tree(2, 0), tree(0, 4))
	checkNoRoot(t, 9223372036854775809)
}

func TestRootOfSmallSizes(t *testing.T) {
	checkRoot(t, 1, tree(0, 0))
	checkRoot(t, 2, tree(1, 0))
	checkRoot(t, 3, tree(1, 0), tree(0, 2))
	checkRoot(t, 255, tree(7, 0), tree(6, 2), tree(5, 6), tree(4, 14), tree(3, 30), tree(2, 62), tree(1, 126), tree(0, 254))
	checkRoot(t, 256, tree(8, 0))
	checkRoot(t, 257, tree(8, 0), tree(0, 256))
	for size := range uint64(1100) {
		checkRoot(t, size, wantCover(stretch(0, size))...)
	}
}

func TestRootOfGreatSizes(t *testing.T) {
	checkRoot(t, most, tree(63, 0))
	var all []api.Coord
	for level := 62; level >= 0; level-- {
		all = append(all, tree(uint8(level), most>>level-2))
	}
	checkRoot(t, most-1, all...)
	for _, size := range greatSizes() {
		checkRoot(t, size, wantCover(stretch(0, size))...)
	}
}

func TestRootOfWhatIsNoSize(t *testing.T) {
	checkNoRoot(t, most+1)
	checkNoRoot(t, greatest)
	for _, size := range noSizes() {
		checkNoRoot(t, size)
	}
}

// P15.2

func TestPathExamples(t *testing.T) {
	askPath(0, 3).check(t, part(tree(0, 1)), part(tree(0, 2)))
	askPath(2, 3).check(t, part(tree(1, 0)))
	askPath(3, 3).checkNone(t)
	askPath(0, 7).check(t, part(tree(0, 1)), part(tree(1, 1)), part(tree(1, 2), tree(0, 6)))
}

func TestProofExamples(t *testing.T) {
	askProof(3, 5).check(t, part(tree(0, 2)), part(tree(0, 3)), part(tree(1, 0)), part(tree(0, 4)))
	askProof(3, 3).check(t)
	askProof(0, 3).checkNone(t)
}

func TestBatchExamples(t *testing.T) {
	askBatch(1, 3, 5).check(t, part(tree(0, 0)), part(tree(0, 3)), part(tree(0, 4)))
	askBatch(2, 4, 7).check(t, part(tree(1, 0)), part(tree(1, 2), tree(0, 6)))
	askBatch(0, 5, 5).check(t)
	askBatch(2, 2, 5).checkNone(t)
}

// All numbers up to the size, and some above it: what may be and what may not.
func TestPartsInSmallSizes(t *testing.T) {
	for size := range uint64(130) {
		for at := range size + 3 {
			askPath(at, size).checkByShape(t)
			askProof(at, size).checkByShape(t)
		}
	}
	for size := range uint64(40) {
		for begin := range size + 3 {
			for end := range size + 3 {
				askBatch(begin, end, size).checkByShape(t)
			}
		}
	}
}

func TestPartsInGreatSizes(t *testing.T) {
	rnd := rand.New(rand.NewSource(2))
	for _, size := range greatSizes() {
		numbers := within(size, rnd)
		for i, at := range numbers {
			askPath(at, size).checkByShape(t)
			askProof(at, size).checkByShape(t)
			askBatch(at, at+1, size).checkByShape(t)
			askBatch(at, size, size).checkByShape(t)
			for j := i + 1; j < len(numbers); j += 1 + rnd.Intn(10) {
				askBatch(at, numbers[j], size).checkByShape(t)
			}
		}
	}
}

func TestPartsInTheGreatestSize(t *testing.T) {
	var first, last []api.Part
	for level := range uint8(63) {
		first = append(first, part(tree(level, 1)))
		last = append(last, part(tree(level, most>>level-2)))
	}
	askPath(0, most).check(t, first...)
	askPath(most-1, most).check(t, last...)
	askProof(1, most).check(t, first...)
	askProof(most/2, most).check(t, part(tree(62, 1)))
	askProof(most, most).check(t)
	askProof(most-1, most).check(t, append([]api.Part{part(tree(0, most-2)), part(tree(0, most-1))}, last[1:]...)...)
	askBatch(0, most, most).check(t)
	askBatch(1, most-1, most).check(t, part(tree(0, 0)), part(tree(0, most-1)))
	askBatch(0, most/2, most).check(t, part(tree(62, 1)))
}

// Of one leaf less than all the right one of the greatest halves is no whole tree.
func TestThePartThatIsNoWholeTree(t *testing.T) {
	var behind []api.Coord
	for level := 61; level >= 0; level-- {
		behind = append(behind, tree(uint8(level), most>>level-2))
	}
	q := askPath(0, most-1)
	if q.err != nil || len(q.parts) != 63 {
		t.Fatalf("%s = %v, %v", q.what, q.parts, q.err)
	}
	for level, p := range q.parts[:62] {
		if !samePart(p, part(tree(uint8(level), 1))) {
			t.Errorf("%s: the part %d is %v", q.what, level, p)
		}
	}
	if !samePart(q.parts[62], part(behind...)) {
		t.Errorf("%s: the last part is %v", q.what, q.parts[62])
	}
	askProof(most/2, most-1).check(t, part(behind...))
	askBatch(0, most/2, most-1).check(t, part(behind...))
}

func TestAtMostOnePartIsNoWholeTree(t *testing.T) {
	check := func(q query) {
		t.Helper()
		broken := 0
		for _, p := range q.parts {
			if len(p.Coords) == 0 {
				t.Fatalf("%s = %v: a part without trees", q.what, q.parts)
			}
			if len(p.Coords) > 1 {
				broken++
			}
		}
		if q.err != nil || broken > 1 {
			t.Fatalf("%s = %v, %v", q.what, q.parts, q.err)
		}
	}
	for size := uint64(1); size < 70; size++ {
		for at := range size {
			check(askPath(at, size))
			check(askProof(at+1, size))
			check(askBatch(at/2, at+1, size))
		}
	}
}

func TestPathOfWhatMayNotBe(t *testing.T) {
	for _, size := range append(greatSizes(), 0) {
		for _, index := range []uint64{size, size + 1, size + 2, most + 1, greatest - 1, greatest} {
			askPath(index, size).checkNone(t)
		}
	}
	for _, size := range noSizes() {
		for _, index := range []uint64{0, 1, 2, most - 1, most, most + 1, size - 1, size, size + 1, greatest} {
			askPath(index, size).checkNone(t)
		}
	}
}

func TestProofOfWhatMayNotBe(t *testing.T) {
	for _, size := range append(greatSizes(), 0) {
		for _, old := range []uint64{0, size + 1, size + 2, most + 1, greatest - 1, greatest} {
			askProof(old, size).checkNone(t)
		}
	}
	for _, size := range noSizes() {
		for _, old := range []uint64{0, 1, 2, most - 1, most, most + 1, size - 1, size, size + 1, greatest} {
			askProof(old, size).checkNone(t)
		}
	}
}

func TestBatchOfWhatMayNotBe(t *testing.T) {
	for _, size := range append(greatSizes(), 0) {
		for _, at := range []uint64{0, 1, size - 1, size, size + 1, most, most + 1, greatest} {
			askBatch(at, at, size).checkNone(t)
			if at > 0 {
				askBatch(at, at-1, size).checkNone(t)
				askBatch(at, 0, size).checkNone(t)
			}
			askBatch(at, size+1, size).checkNone(t)
			askBatch(at, greatest, size).checkNone(t)
		}
	}
	for _, size := range noSizes() {
		askBatch(0, 1, size).checkNone(t)
		askBatch(0, most, size).checkNone(t)
		askBatch(0, size, size).checkNone(t)
		askBatch(most-1, most, size).checkNone(t)
		askBatch(size-1, size, size).checkNone(t)
		askBatch(1, 1, size).checkNone(t)
		askBatch(size, 0, size).checkNone(t)
	}
}

// P15.3

func TestTilesExamples(t *testing.T) {
	checkTiles(t, askPath(299, 300).parts, 300, tileOf(0, 1, 44), tileOf(1, 0, 1))
	checkTiles(t, askPath(0, 2).parts, 300, tileOf(0, 0, 256))
	checkTiles(t, askPath(0, 2).parts, 2, tileOf(0, 0, 2))
	checkNoTiles(t, askPath(0, 2).parts, 1)
	checkTiles(t, nil, 300)
	checkTiles(t, []api.Part{part(tree(8, 0))}, 256, tileOf(1, 0, 1))
	checkNoTiles(t, []api.Part{part(tree(8, 0))}, 255)
}

func TestTilesOfNoPart(t *testing.T) {
	for _, size := range append(greatSizes(), 0) {
		checkTiles(t, nil, size)
		checkTiles(t, []api.Part{}, size)
	}
	for _, size := range noSizes() {
		checkNoTiles(t, nil, size)
		checkNoTiles(t, []api.Part{}, size)
	}
}

func TestTilesOfPartsWithoutTrees(t *testing.T) {
	none := []api.Part{part(), {Coords: []api.Coord{}}, part()}
	for _, size := range append(greatSizes(), 0) {
		checkTiles(t, none, size)
	}
	for _, size := range noSizes() {
		checkNoTiles(t, none, size)
	}
	between := []api.Part{part(), part(tree(0, 1)), part(), part(tree(8, 0)), part()}
	checkTiles(t, between, 256, tileOf(0, 0, 256), tileOf(1, 0, 1))
}

func TestTilesOfWhatIsNoSize(t *testing.T) {
	for _, size := range noSizes() {
		checkNoTiles(t, []api.Part{part(tree(0, 0))}, size)
		checkNoTiles(t, []api.Part{part(tree(63, 0))}, size)
		checkNoTiles(t, askPath(0, most).parts, size)
	}
}

// brokenTrees: some that may not be, of each level.
func brokenTrees() []api.Coord {
	var all []api.Coord
	for _, level := range []uint8{64, 65, 71, 72, 127, 128, 129, 192, 254, 255} {
		for _, index := range []uint64{0, 1, 2, most, greatest} {
			all = append(all, tree(level, index))
		}
	}
	for level := range uint8(64) {
		first := most >> level // of those that end too late
		for _, index := range []uint64{first, first + 1, 2 * first, most, most + 1, greatest - 1, greatest} {
			all = append(all, tree(level, max(index, first))) // 2 * first wraps round on the level 0
		}
	}
	return all
}

func TestTilesOfTreesThatMayNotBe(t *testing.T) {
	for _, c := range brokenTrees() {
		if _, ok := wantEnd(c); ok {
			t.Fatalf("%v may be", c)
		}
		for _, size := range []uint64{0, 1, 2, 255, 256, 257, 65536, most / 2, most - 1, most, most + 1, greatest} {
			checkNoTiles(t, []api.Part{part(c)}, size)
		}
	}
}

// Good trees ahead and behind help a broken one nothing, and their tiles are not told.
func TestTilesOfABrokenTreeAmongOthers(t *testing.T) {
	good := []api.Part{part(tree(0, 0), tree(0, 299)), part(tree(8, 0))}
	checkTiles(t, good, 300, tileOf(0, 0, 256), tileOf(0, 1, 44), tileOf(1, 0, 1))
	for _, c := range append(brokenTrees(), tree(0, 300), tree(1, 150), tree(8, 1), tree(9, 0), tree(63, 0)) {
		for _, at := range []int{0, 1, 2} {
			checkNoTiles(t, slices.Insert(slices.Clone(good), at, part(c)), 300)
		}
		checkNoTiles(t, []api.Part{part(c, tree(0, 0))}, 300)
		checkNoTiles(t, []api.Part{part(tree(0, 0), c, tree(0, 1))}, 300)
		checkNoTiles(t, []api.Part{part(tree(0, 0), c)}, 300)
	}
}

// someTrees: of each level the first ones, the last ones that may be, some by chance.
func someTrees() []api.Coord {
	rnd := rand.New(rand.NewSource(3))
	var all []api.Coord
	for level := range uint8(64) {
		end := most >> level
		for _, index := range []uint64{0, 1, 2, 127, 128, 255, 256, 257, end / 2, end - 2, end - 1} {
			if index < end {
				all = append(all, tree(level, index))
			}
		}
		for range 4 {
			all = append(all, tree(level, rnd.Uint64()%end))
		}
	}
	return all
}

// A log of so many leaves has a tree from the size on with which its last leaf is there.
func TestTilesAboutATreesLastLeaf(t *testing.T) {
	for _, c := range someTrees() {
		l := []api.Part{part(c)}
		large, _ := wantEnd(c)
		end := large.Uint64()
		for _, size := range []uint64{0, end / 2, end - 1<<c.Level, end - 1} {
			checkNoTiles(t, l, size)
		}
		sizes := []uint64{end, most/2 + end/2, most}
		for e := range 63 {
			sizes = append(sizes, end+1<<e, end+255<<e) // above most they may not be, and no sum wraps round
		}
		for _, size := range sizes {
			checkTilesByDefinition(t, l, size)
		}
	}
}

func TestTilesOfEachLevel(t *testing.T) {
	for level := range uint8(64) {
		width := 256
		if level/8 == 7 {
			width = 128
		}
		checkTiles(t, []api.Part{part(tree(level, 0))}, most, tileOf(level/8, 0, width))
		checkTiles(t, []api.Part{part(tree(level, 0))}, 1<<level, tileOf(level/8, 0, 1<<(level%8)))
		end := most >> level
		last := (end - 1) << (level % 8) / 256
		checkTiles(t, []api.Part{part(tree(level, end-1))}, most, tileOf(level/8, last, width))
	}
}

// The tree is the same, the width that of the log.
func TestTilesInGreaterLogs(t *testing.T) {
	one := []api.Part{part(tree(0, 256))}
	for size := uint64(257); size < 600; size++ {
		checkTiles(t, one, size, tileOf(0, 1, int(min(size-256, 256))))
	}
	high := []api.Part{part(tree(8, 1))}
	for n := uint64(2); n < 300; n++ {
		for _, more := range []uint64{0, 1, 255} {
			checkTiles(t, high, n<<8+more, tileOf(1, 0, int(min(n, 256))))
		}
	}
	top := []api.Part{part(tree(56, 0))}
	for n := uint64(1); n <= 128; n++ {
		checkTiles(t, top, n<<56, tileOf(7, 0, int(n)))
	}
	for e := 2; e < 63; e++ {
		checkTiles(t, askPath(0, 2).parts, 1<<e, tileOf(0, 0, min(1<<min(e, 8), 256)))
	}
	checkTiles(t, askPath(0, 2).parts, most, tileOf(0, 0, 256))
}

func TestTilesThatAreMetAgain(t *testing.T) {
	checkTiles(t, []api.Part{part(tree(0, 0), tree(0, 0))}, 1, tileOf(0, 0, 1))
	checkTiles(t, []api.Part{part(tree(0, 0)), part(tree(0, 0))}, 1, tileOf(0, 0, 1))
	checkTiles(t, []api.Part{part(tree(0, 0), tree(3, 0), tree(7, 1), tree(0, 255))}, 256, tileOf(0, 0, 256))
	checkTiles(t, []api.Part{part(tree(0, 0)), part(tree(3, 0)), part(tree(7, 1)), part(tree(0, 255))}, 256, tileOf(0, 0, 256))
	there := []api.Part{part(tree(0, 1), tree(0, 256)), part(tree(8, 0)), part(tree(1, 128), tree(0, 0)), part(tree(9, 0), tree(0, 511))}
	checkTiles(t, there, 512, tileOf(0, 0, 256), tileOf(0, 1, 256), tileOf(1, 0, 2))
	slices.Reverse(there)
	checkTiles(t, there, 512, tileOf(1, 0, 2), tileOf(0, 1, 256), tileOf(0, 0, 256))
}

// Neither by level nor by index: as they are met.
func TestTilesInTheOrderInWhichTheyAreMet(t *testing.T) {
	a, b, c, d := tree(16, 0), tree(0, 300), tree(8, 3), tree(0, 7)
	tiles := map[api.Coord]api.Tile{a: tileOf(2, 0, 1), b: tileOf(0, 1, 256), c: tileOf(1, 0, 256), d: tileOf(0, 0, 256)}
	for _, order := range [][]api.Coord{{a, b, c, d}, {d, c, b, a}, {b, d, a, c}, {c, a, d, b}, {d, a, c, b}} {
		var want []api.Tile
		for _, tree := range order {
			want = append(want, tiles[tree])
		}
		checkTiles(t, []api.Part{part(order...)}, 65536, want...)
		checkTiles(t, []api.Part{part(order[:2]...), part(order[2:]...)}, 65536, want...)
		checkTiles(t, []api.Part{part(order[0], order[0]), part(), part(order[1], order[0], order[2]), part(order[3], order[1])}, 65536, want...)
	}
}

// Of any trees, in any order, many of them in few tiles.
func TestTilesOfAnyTrees(t *testing.T) {
	rnd := rand.New(rand.NewSource(4))
	for range 3000 {
		size := rnd.Uint64() >> (1 + rnd.Intn(63))
		var l []api.Part
		for range rnd.Intn(5) {
			var p api.Part
			for range rnd.Intn(6) {
				level := uint8(rnd.Intn(64))
				if trees := size >> level; trees > 0 {
					p.Coords = append(p.Coords, tree(level, rnd.Uint64()%trees>>rnd.Intn(20)))
				}
			}
			l = append(l, p)
		}
		checkTilesByDefinition(t, l, size)
		checkTilesByDefinition(t, l, size-size>>uint(1+rnd.Intn(20)))
		checkTilesByDefinition(t, append(l, l...), size)
	}
}

// All trees of a log need all its tiles, and no other ones.
func TestTilesOfAllTrees(t *testing.T) {
	for _, size := range []uint64{0, 1, 2, 255, 256, 257, 511, 512, 513, 65535, 65536, 65537, 70000, 140000} {
		want, err := tile.All(size)
		if err != nil {
			t.Fatal(err)
		}
		var l []api.Part
		for level := uint8(0); size>>level > 0; level++ {
			var p api.Part
			for index := range size >> level {
				p.Coords = append(p.Coords, tree(level, index))
			}
			l = append(l, p)
		}
		checkTiles(t, l, size, want...)
	}
}

func TestTilesOfWhatIsPlanned(t *testing.T) {
	rnd := rand.New(rand.NewSource(5))
	for _, size := range greatSizes() {
		root, err := plan.Root(size)
		if err != nil {
			t.Fatal(err)
		}
		logs := []uint64{size - 1, size, size + 1, size + 255, size + 256, most - 1, most, most + 1}
		for _, log := range logs {
			checkTilesByDefinition(t, []api.Part{root}, log)
		}
		for _, at := range within(size, rnd) {
			for _, q := range []query{askPath(at, size), askProof(at, size), askBatch(at/2, at, size)} {
				log := logs[rnd.Intn(len(logs))]
				checkTilesByDefinition(t, q.parts, size)
				checkTilesByDefinition(t, q.parts, log)
			}
		}
	}
}

// P15.4

// wantNode: the definition of the document, with the library's SHA-256.
func wantNode(a, b api.Hash) api.Hash {
	return api.Hash(sha256.Sum256(slices.Concat([]byte{1}, a[:], b[:])))
}

// someHashes: so many, no two the same.
func someHashes(count int) []api.Hash {
	rnd := rand.New(rand.NewSource(6))
	all := make([]api.Hash, count)
	for i := range all {
		rnd.Read(all[i][:])
	}
	return all
}

func checkFold(t *testing.T, l []api.Hash, want api.Hash) {
	t.Helper()
	if h, err := plan.Fold(l); err != nil || h != want {
		t.Errorf("Fold of %d hashes = %x, %v; want %x", len(l), h, err, want)
	}
}

func checkNoFold(t *testing.T, l []api.Hash) {
	t.Helper()
	h, err := plan.Fold(l)
	checkOnly(t, "Fold of none", err, api.ErrArg)
	if h != (api.Hash{}) {
		t.Errorf("Fold of none = %x beside an error", h)
	}
}

func TestFoldExamples(t *testing.T) {
	a, b, c := hash.Leaf("a"), hash.Leaf("b"), hash.Leaf("c")
	checkNoFold(t, nil)
	checkFold(t, []api.Hash{a}, a)
	checkFold(t, []api.Hash{a, b, c}, hash.Node(a, hash.Node(b, c)))
}

func TestFoldOfNone(t *testing.T) {
	checkNoFold(t, nil)
	checkNoFold(t, []api.Hash{})
	checkNoFold(t, someHashes(3)[:0])
}

func TestFoldOfOne(t *testing.T) {
	checkFold(t, []api.Hash{{}}, api.Hash{})
	for _, h := range someHashes(20) {
		checkFold(t, []api.Hash{h}, h)
	}
}

func TestFoldOfSeveral(t *testing.T) {
	l := someHashes(5)
	checkFold(t, l[:2], hash.Node(l[0], l[1]))
	checkFold(t, l[:3], hash.Node(l[0], hash.Node(l[1], l[2])))
	checkFold(t, l[:4], hash.Node(l[0], hash.Node(l[1], hash.Node(l[2], l[3]))))
	checkFold(t, l, hash.Node(l[0], hash.Node(l[1], hash.Node(l[2], hash.Node(l[3], l[4])))))
	checkFold(t, []api.Hash{l[0], l[0], l[0]}, hash.Node(l[0], hash.Node(l[0], l[0])))
	checkFold(t, make([]api.Hash, 3), hash.Node(api.Hash{}, hash.Node(api.Hash{}, api.Hash{})))
}

// One hash more on the left is one node more on the top.
func TestFoldOfMany(t *testing.T) {
	l := someHashes(300)
	want := l[len(l)-1]
	for at := len(l) - 1; at >= 0; at-- {
		if at < len(l)-1 {
			want = wantNode(l[at], want)
		}
		checkFold(t, l[at:], want)
	}
}

func TestFoldOfVeryMany(t *testing.T) {
	l := someHashes(100000)
	want := l[len(l)-1]
	for _, h := range slices.Backward(l[:len(l)-1]) {
		want = wantNode(h, want)
	}
	checkFold(t, l, want)
}

// P15.5

// aLog: by chapter 8, and beside it all whole trees' hashes, by their levels.
type aLog struct {
	*naive.Log
	rows [][]api.Hash
}

func logOf(t *testing.T, size int) aLog {
	t.Helper()
	l := aLog{Log: naive.New()}
	row := make([]api.Hash, size)
	for i := range row {
		data := "leaf " + strconv.Itoa(i)
		row[i] = api.Hash(sha256.Sum256([]byte("\x00" + data)))
		if _, err := l.Append(data); err != nil {
			t.Fatal(err)
		}
	}
	for len(row) > 0 {
		l.rows = append(l.rows, row)
		above := make([]api.Hash, len(row)/2)
		for i := range above {
			above[i] = wantNode(row[2*i], row[2*i+1])
		}
		row = above
	}
	return l
}

// folded: what a part's trees, whose hashes the log has, become.
func (l aLog) folded(t *testing.T, p api.Part) api.Hash {
	t.Helper()
	var hashes []api.Hash
	for _, c := range p.Coords {
		hashes = append(hashes, l.rows[c.Level][c.Index])
	}
	h, err := plan.Fold(hashes)
	if err != nil {
		t.Fatalf("Fold of the hashes of %v: %v", p, err)
	}
	return h
}

func (l aLog) checkHashes(t *testing.T, q query, want []api.Hash, err error) {
	t.Helper()
	var got []api.Hash
	for _, p := range q.parts {
		got = append(got, l.folded(t, p))
	}
	if q.err != nil || err != nil || !slices.Equal(got, want) {
		t.Fatalf("%s: %v, %v; folded %x; by chapter 8 %x, %v", q.what, q.parts, q.err, got, want, err)
	}
}

func (l aLog) checkRoot(t *testing.T, size uint64) {
	t.Helper()
	p, err := plan.Root(size)
	want, errNaive := l.Root(size)
	if err != nil || errNaive != nil {
		t.Fatal(err, errNaive)
	}
	if size == 0 {
		if len(p.Coords) != 0 || want != hash.Empty() {
			t.Errorf("Root(0) = %v; by chapter 8 %x", p, want)
		}
		return
	}
	if h := l.folded(t, p); h != want {
		t.Errorf("Root(%d) = %v, folded %x; by chapter 8 %x", size, p, h, want)
	}
}

func (l aLog) checkPath(t *testing.T, index, size uint64) {
	t.Helper()
	want, err := l.Path(index, size)
	l.checkHashes(t, askPath(index, size), want, err)
}

func (l aLog) checkProof(t *testing.T, old, size uint64) {
	t.Helper()
	want, err := l.Proof(old, size)
	l.checkHashes(t, askProof(old, size), want, err)
}

func (l aLog) checkBatch(t *testing.T, begin, end, size uint64) {
	t.Helper()
	want, err := l.Batch(begin, end, size)
	l.checkHashes(t, askBatch(begin, end, size), want, err)
}

func TestFoldedInSmallLogs(t *testing.T) {
	l := logOf(t, 40)
	for size := range uint64(41) {
		l.checkRoot(t, size)
		for at := range size {
			l.checkPath(t, at, size)
			l.checkProof(t, at+1, size)
			for end := at + 1; end <= size && size <= 20; end++ {
				l.checkBatch(t, at, end, size)
			}
		}
	}
}

func TestFoldedInGreaterLogs(t *testing.T) {
	l := logOf(t, 1030)
	rnd := rand.New(rand.NewSource(7))
	for _, size := range []uint64{127, 128, 255, 256, 257, 300, 511, 512, 513, 767, 1000, 1023, 1024, 1025, 1030} {
		l.checkRoot(t, size)
		numbers := within(size, rnd)
		for i, at := range numbers {
			if at < size {
				l.checkPath(t, at, size)
				l.checkProof(t, at+1, size)
			}
			for j := i + 1; j < len(numbers); j += 1 + rnd.Intn(8) {
				l.checkBatch(t, at, numbers[j], size)
			}
		}
	}
}

// As few parts and tiles as are promised, also in logs that are greater than the one of the proof; and no tile is wider than its log has nodes.
func checkHowMany(t *testing.T, q query, size uint64, logs ...uint64) {
	t.Helper()
	log, _ := bits.Log(size)
	if q.err != nil || len(q.parts) > log+1 {
		t.Fatalf("%s has %d parts, %v", q.what, len(q.parts), q.err)
	}
	for _, n := range logs {
		tiles, err := plan.Tiles(q.parts, n)
		if err != nil || len(tiles) > 2*(log+1) {
			t.Fatalf("%s, in a log of %d leaves: %d tiles, %v", q.what, n, len(tiles), err)
		}
		for i, x := range tiles {
			if slices.Contains(tiles[:i], x) {
				t.Fatalf("%s, in a log of %d leaves: %v twice", q.what, n, x)
			}
			checkWidth(t, x, n)
		}
	}
}

func checkWidth(t *testing.T, x api.Tile, size uint64) {
	t.Helper()
	nodes := size >> (8 * x.Level)
	if x.Level > 7 || x.Width < 1 || x.Width > 256 || x.Index*256+uint64(x.Width) > nodes {
		t.Fatalf("in a log of %d leaves, which has %d nodes of the tile's level: %v", size, nodes, x)
	}
}

func TestHowManyInSmallSizes(t *testing.T) {
	for size := uint64(1); size < 600; size += 1 + size/40 {
		for at := range size {
			checkHowMany(t, askPath(at, size), size, size, size+1, 600, 70000, most)
			checkHowMany(t, askProof(at+1, size), size, size, size+1, 600, 70000, most)
		}
	}
	for size := uint64(1); size < 130; size++ {
		for at := range size {
			checkHowMany(t, askPath(at, size), size, size)
			checkHowMany(t, askProof(at+1, size), size, size)
		}
	}
}

func TestHowManyInGreatSizes(t *testing.T) {
	rnd := rand.New(rand.NewSource(8))
	for _, size := range greatSizes() {
		logs := []uint64{size, size + (most-size)/2, most}
		for _, at := range within(size, rnd) {
			if at < size {
				checkHowMany(t, askPath(at, size), size, logs...)
				checkHowMany(t, askProof(at+1, size), size, logs...)
			}
		}
	}
}

// The bound is met: there are proofs with as many parts as may be.
func TestAsManyPartsAsMayBe(t *testing.T) {
	for e := 2; e < 63; e++ {
		for _, size := range []uint64{1 << e, 1<<e + 1} {
			log, _ := bits.Log(size)
			if q := askProof(3, size); len(q.parts) != log+1 {
				t.Errorf("%s has %d parts; want %d", q.what, len(q.parts), log+1)
			}
		}
	}
}

func TestWidthsOfBatches(t *testing.T) {
	rnd := rand.New(rand.NewSource(9))
	for _, size := range greatSizes() {
		numbers := within(size, rnd)
		for i, begin := range numbers {
			for j := i + 1; j < len(numbers); j += 1 + rnd.Intn(12) {
				q := askBatch(begin, numbers[j], size)
				tiles, err := plan.Tiles(q.parts, size)
				if q.err != nil || err != nil {
					t.Fatal(q.what, q.err, err)
				}
				for _, x := range tiles {
					checkWidth(t, x, size)
				}
			}
		}
	}
}

// What is planned is enough: out of the tiles alone, as wide as they are told, each tree's hash can be made.
func TestTheTilesAreEnough(t *testing.T) {
	l := logOf(t, 70000)
	pieceOf := func(x api.Tile) []api.Hash {
		row := l.rows[8*x.Level]
		return row[x.Index*256:][:x.Width]
	}
	rnd := rand.New(rand.NewSource(10))
	check := func(q query, log uint64) {
		t.Helper()
		tiles, err := plan.Tiles(q.parts, log)
		if err != nil {
			t.Fatal(q.what, log, err)
		}
		for _, p := range q.parts {
			for _, c := range p.Coords {
				of, at, count, _ := tile.Of(c)
				i := slices.IndexFunc(tiles, func(x api.Tile) bool { return x.Level == of.Level && x.Index == of.Index })
				if i < 0 {
					t.Fatalf("%s, in a log of %d leaves: %v has no tile among %v", q.what, log, c, tiles)
				}
				h, err := tile.Hash(pieceOf(tiles[i]), at, count)
				if err != nil || h != l.rows[c.Level][c.Index] {
					t.Fatalf("%s, in a log of %d leaves: out of %v %v has the hash %x, %v", q.what, log, tiles[i], c, h, err)
				}
			}
		}
	}
	for _, size := range []uint64{1, 2, 3, 255, 256, 257, 300, 511, 512, 65535, 65536, 65537, 66000, 69999, 70000} {
		for _, at := range within(size, rnd) {
			for _, log := range []uint64{size, (size + 70000) / 2, 70000} {
				if at < size {
					check(askPath(at, size), log)
					check(askProof(at+1, size), log)
					check(askBatch(at/2, at+1, size), log)
				}
			}
		}
	}
}

// R4

func cloneParts(l []api.Part) []api.Part {
	all := make([]api.Part, len(l))
	for i, p := range l {
		all[i].Coords = slices.Clone(p.Coords)
	}
	return all
}

var (
	treeMark = api.Coord{Level: 77, Index: 77}
	tileMark = api.Tile{Level: 77, Index: 77, Width: 77}
	hashMark = api.Hash{77, 77}
)

// writeOver: all of the list, and its spare room.
func writeOver[T any](l []T, mark T) {
	room := l[:cap(l)]
	for i := range room {
		room[i] = mark
	}
}

// seen: whether the mark stands in the list, or in its spare room.
func seen[T comparable](l []T, mark T) bool { return slices.Contains(l[:cap(l)], mark) }

// checkOwnParts: what is written into one part, and into its spare room, is seen neither in another one of the answer nor in another answer.
func checkOwnParts(t *testing.T, what string, call func() ([]api.Part, error)) {
	t.Helper()
	first, err := call()
	second, _ := call()
	if err != nil {
		t.Fatalf("%s: %v", what, err)
	}
	want := cloneParts(first)
	for i, p := range first {
		writeOver(p.Coords, treeMark)
		for _, other := range first[i+1:] {
			if seen(other.Coords, treeMark) {
				t.Errorf("two parts of %s share memory", what)
			}
		}
	}
	for _, p := range second {
		if seen(p.Coords, treeMark) {
			t.Errorf("the parts of two answers of %s share memory", what)
		}
	}
	writeOver(first, part(treeMark))
	checkParts(t, what, second, nil, want...)
	for _, p := range second[:cap(second)] {
		if slices.Contains(p.Coords, treeMark) {
			t.Errorf("two answers of %s share memory", what)
		}
	}
	third, err := call()
	checkParts(t, what, third, err, want...)
}

func TestPartsAreNewMemory(t *testing.T) {
	for _, size := range []uint64{1, 2, 3, 5, 7, 8, 100, 255, most - 1, most} {
		checkOwnParts(t, "Root", func() ([]api.Part, error) {
			p, err := plan.Root(size)
			return []api.Part{p}, err
		})
		for _, at := range []uint64{0, size / 3, size / 2, size - 1} {
			checkOwnParts(t, "Path", func() ([]api.Part, error) { return plan.Path(at, size) })
			checkOwnParts(t, "Proof", func() ([]api.Part, error) { return plan.Proof(at+1, size) })
			checkOwnParts(t, "Batch", func() ([]api.Part, error) { return plan.Batch(at, at+1, size) })
			checkOwnParts(t, "Batch", func() ([]api.Part, error) { return plan.Batch(at/2, at+1, size) })
		}
	}
}

func TestTilesAreNewMemory(t *testing.T) {
	for _, size := range []uint64{1, 2, 257, 300, 70000, most - 1, most} {
		for _, at := range []uint64{0, size / 3, size - 1} {
			l := askPath(at, size).parts
			first, err := plan.Tiles(l, size)
			second, _ := plan.Tiles(l, size)
			if err != nil {
				t.Fatal(err)
			}
			want := slices.Clone(first)
			writeOver(first, tileMark)
			if seen(second, tileMark) {
				t.Error("two answers of Tiles share memory")
			}
			checkTiles(t, l, size, want...)
		}
	}
}

// roomy: the parts, each list of them with room behind its end that has marks.
func roomy(l []api.Part) []api.Part {
	all := slices.Repeat([]api.Part{part(treeMark)}, len(l)+3)
	for i, p := range l {
		room := slices.Repeat([]api.Coord{treeMark}, len(p.Coords)+3)
		copy(room, p.Coords)
		all[i].Coords = room[:len(p.Coords)]
	}
	return all[:len(l)]
}

func checkRoomy(t *testing.T, what string, got, want []api.Part) {
	t.Helper()
	if !slices.EqualFunc(got, want, samePart) {
		t.Errorf("%s turned the parts into %v", what, got)
	}
	for _, p := range got {
		if slices.ContainsFunc(p.Coords[len(p.Coords):cap(p.Coords)], func(c api.Coord) bool { return c != treeMark }) {
			t.Errorf("%s wrote into the spare room of a part", what)
		}
	}
	for _, p := range got[len(got):cap(got)] {
		if !samePart(p, part(treeMark)) {
			t.Errorf("%s wrote into the spare room of the parts", what)
		}
	}
}

func TestTilesTurnsNothing(t *testing.T) {
	lists := [][]api.Part{
		nil,
		{part()},
		{part(tree(0, 0), tree(0, 0)), part(tree(8, 0), tree(0, 299), tree(0, 3)), part()},
		{part(tree(0, 0)), part(tree(64, 0))},
		{part(tree(0, 300)), part(tree(0, 0))},
		askPath(0, 300).parts,
		askProof(299, 300).parts,
	}
	for _, l := range lists {
		for _, size := range []uint64{0, 1, 299, 300, 70000, most, most + 1} {
			room := roomy(l)
			plan.Tiles(room, size)
			checkRoomy(t, fmt.Sprintf("Tiles(%v, %d)", l, size), room, l)
		}
	}
}

func TestTilesKeepsNothing(t *testing.T) {
	l := []api.Part{part(tree(0, 0), tree(0, 256)), part(tree(8, 0))}
	room := roomy(l)
	got, err := plan.Tiles(room, 300)
	want := []api.Tile{tileOf(0, 0, 256), tileOf(0, 1, 44), tileOf(1, 0, 1)}
	for _, p := range room {
		writeOver(p.Coords, treeMark)
	}
	writeOver(room, part(treeMark))
	if err != nil || !slices.Equal(got, want) {
		t.Errorf("Tiles(%v, 300) = %v, %v; want %v", l, got, err, want)
	}
	checkTiles(t, l, 300, want...)
}

func TestFoldTurnsNothing(t *testing.T) {
	hashes := someHashes(20)
	for count := range len(hashes) + 1 {
		room := slices.Clone(hashes)
		plan.Fold(room[:count])
		if !slices.Equal(room, hashes) {
			t.Errorf("Fold of %d hashes turned them, or their spare room", count)
		}
	}
}

func TestFoldKeepsNothing(t *testing.T) {
	hashes := someHashes(3)
	room := slices.Clone(hashes)
	got, err := plan.Fold(room)
	writeOver(room, hashMark)
	if want := wantNode(hashes[0], wantNode(hashes[1], hashes[2])); err != nil || got != want {
		t.Errorf("Fold = %x, %v; want %x", got, err, want)
	}
	checkFold(t, hashes[:1], hashes[0])
}

// R5

// What was asked ahead of it turns no answer: no tile that another call met is left out.
func TestAskedAgainAndAgain(t *testing.T) {
	l := askPath(299, 300).parts
	for range 3 {
		checkNoTiles(t, []api.Part{part(tree(0, 299)), part(tree(64, 0))}, 300)
		checkTiles(t, l, 300, tileOf(0, 1, 44), tileOf(1, 0, 1))
		checkTiles(t, l, 301, tileOf(0, 1, 45), tileOf(1, 0, 1))
		checkTiles(t, l[:1], 300, tileOf(0, 1, 44))
		checkNoFold(t, nil)
		checkNoRoot(t, greatest)
		checkRoot(t, 3, tree(1, 0), tree(0, 2))
	}
}

func TestAskedSideBySide(t *testing.T) {
	hashes := someHashes(9)
	folded, err := plan.Fold(hashes)
	if err != nil {
		t.Fatal(err)
	}
	right := func(begin uint64) bool {
		for size := begin + 1; size < 700; size += 3 {
			for _, q := range []query{askPath(begin, size), askProof(begin+1, size), askBatch(begin, begin+1, size)} {
				want, _ := wantTiles(q.parts, size)
				tiles, err := plan.Tiles(q.parts, size)
				if q.err != nil || err != nil || len(q.parts) != len(q.stretches) || !slices.Equal(tiles, want) {
					return false
				}
			}
			if h, err := plan.Fold(hashes); err != nil || h != folded {
				return false
			}
		}
		return true
	}
	done := make(chan bool)
	for begin := range uint64(8) {
		go func() { done <- right(begin) }()
	}
	for range 8 {
		if !<-done {
			t.Error("another answer beside other calls")
		}
	}
}
