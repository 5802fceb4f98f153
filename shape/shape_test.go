package shape_test

import (
	"cmp"
	"errors"
	"fmt"
	"math/rand"
	"slices"
	"testing"

	"cartulary/api"
	"cartulary/bits"
	"cartulary/coord"
	"cartulary/shape"
)

const (
	most     uint64 = 1 << 63 // the greatest size
	greatest uint64 = 1<<64 - 1
)

func tree(level uint8, index uint64) api.Coord { return api.Coord{Level: level, Index: index} }

func stretch(begin, end uint64) api.Span { return api.Span{Begin: begin, End: end} }

// row: the stretches of numbers by twos.
func row(ends ...uint64) []api.Span {
	var all []api.Span
	for pair := range slices.Chunk(ends, 2) {
		all = append(all, stretch(pair[0], pair[1]))
	}
	return all
}

// tableErrors are the errors of the document's table, in its order.
func tableErrors() []error {
	return []error{
		api.ErrNil, api.ErrArg, api.ErrInput, api.ErrLimit, api.ErrRange, api.ErrGone, api.ErrUnavailable, api.ErrDead,
		api.ErrCorrupt, api.ErrProof, api.ErrSpent, api.ErrSigned, api.ErrFork, api.ErrOld, api.ErrStopped, api.ErrScript,
	}
}

// checkRefused: ErrRange and no other error of the table, without a place, and nothing beside it.
func checkRefused[T any](t *testing.T, what string, got []T, err error) {
	t.Helper()
	for _, e := range tableErrors() {
		if errors.Is(err, e) != (e == api.ErrRange) {
			t.Fatalf("%s: got %v, want %v: errors.Is says %v of %v", what, err, api.ErrRange, errors.Is(err, e), e)
		}
	}
	var f *api.Fault
	if errors.As(err, &f) && f.At != 0 {
		t.Errorf("%s tells the place %d", what, f.At)
	}
	if len(got) != 0 {
		t.Errorf("%s = %v beside an error", what, got)
	}
}

func checkRow[T comparable](t *testing.T, what string, got []T, err error, want []T) {
	t.Helper()
	if err != nil || !slices.Equal(got, want) {
		t.Fatalf("%s = %v, %v; want %v", what, got, err, want)
	}
}

func checkPath(t *testing.T, index, size uint64, want []api.Span) {
	t.Helper()
	got, err := shape.Path(index, size)
	checkRow(t, fmt.Sprintf("Path(%d, %d)", index, size), got, err, want)
}

func checkNoPath(t *testing.T, index, size uint64) {
	t.Helper()
	got, err := shape.Path(index, size)
	checkRefused(t, fmt.Sprintf("Path(%d, %d)", index, size), got, err)
}

func checkProof(t *testing.T, old, size uint64, want []api.Span) {
	t.Helper()
	got, err := shape.Proof(old, size)
	checkRow(t, fmt.Sprintf("Proof(%d, %d)", old, size), got, err, want)
}

func checkNoProof(t *testing.T, old, size uint64) {
	t.Helper()
	got, err := shape.Proof(old, size)
	checkRefused(t, fmt.Sprintf("Proof(%d, %d)", old, size), got, err)
}

func checkBatch(t *testing.T, begin, end, size uint64, want []api.Span) {
	t.Helper()
	got, err := shape.Batch(begin, end, size)
	checkRow(t, fmt.Sprintf("Batch(%d, %d, %d)", begin, end, size), got, err, want)
}

func checkNoBatch(t *testing.T, begin, end, size uint64) {
	t.Helper()
	got, err := shape.Batch(begin, end, size)
	checkRefused(t, fmt.Sprintf("Batch(%d, %d, %d)", begin, end, size), got, err)
}

func checkPeaks(t *testing.T, size uint64, want []api.Coord) {
	t.Helper()
	got, err := shape.Peaks(size)
	checkRow(t, fmt.Sprintf("Peaks(%d)", size), got, err, want)
}

func checkNoPeaks(t *testing.T, size uint64) {
	t.Helper()
	got, err := shape.Peaks(size)
	checkRefused(t, fmt.Sprintf("Peaks(%d)", size), got, err)
}

// The definitions of the document, word by word, on lists of leaves. A leaf is here its number, and MTH of leaves is the list of them, so that each hash tells of which stretch it is.

type leaves []uint64

func firstLeaves(n int) leaves {
	d := make(leaves, n)
	for i := range d {
		d[i] = uint64(i)
	}
	return d
}

// greatestBelow: the greatest power of two below n, which is above 1.
func greatestBelow(n int) int {
	k := 1
	for 2*k < n {
		k *= 2
	}
	return k
}

func wantPath(m int, d leaves) []leaves {
	if len(d) == 1 {
		return nil
	}
	k := greatestBelow(len(d))
	if m < k {
		return append(wantPath(m, d[:k]), d[k:])
	}
	return append(wantPath(m-k, d[k:]), d[:k])
}

func wantProof(m int, d leaves) []leaves {
	if m == len(d) {
		return nil
	}
	return wantSub(m, d, true)
}

func wantSub(m int, d leaves, b bool) []leaves {
	if m == len(d) {
		if b {
			return nil
		}
		return []leaves{d}
	}
	k := greatestBelow(len(d))
	if m <= k {
		return append(wantSub(m, d[:k], b), d[k:])
	}
	return append(wantSub(m-k, d[k:], false), d[:k])
}

func wantBatch(begin, end uint64, d leaves) []leaves {
	inside := 0
	for _, leaf := range d {
		if begin <= leaf && leaf < end {
			inside++
		}
	}
	switch inside {
	case len(d):
		return nil
	case 0:
		return []leaves{d}
	}
	k := greatestBelow(len(d))
	return append(wantBatch(begin, end, d[:k]), wantBatch(begin, end, d[k:])...)
}

// stretches: those of which the hashes are.
func stretches(hashes []leaves) []api.Span {
	var all []api.Span
	for _, d := range hashes {
		all = append(all, stretch(d[0], d[len(d)-1]+1))
	}
	return all
}

// Of great sizes, another way to the same: the tree is that of 2^63 leaves, cut off behind the size; what the definitions take is then a node of a level and an index, as far as it has leaves.

// node: the leaves below size of the node; none: it has none. No node ends behind 2^63, so that nothing wraps round.
func node(level int, index, size uint64) (api.Span, bool) {
	begin, end := index<<level, (index+1)<<level
	return stretch(begin, min(end, size)), begin < size
}

// beside: what lies beside a node, and beside those above it, upward.
func beside(level int, index, size uint64) []api.Span {
	var all []api.Span
	for ; level < 63; level, index = level+1, index/2 {
		if s, ok := node(level, index^1, size); ok {
			all = append(all, s)
		}
	}
	return all
}

func greatPath(index, size uint64) []api.Span { return beside(0, index, size) }

// greatProof: of the greatest whole tree that ends with the old leaves, unless it is all of them, and what lies beside it.
func greatProof(old, size uint64) []api.Span {
	if old == size {
		return nil
	}
	level, index := 0, old
	for index%2 == 0 {
		level, index = level+1, index/2
	}
	all := beside(level, index-1, size)
	if index == 1 {
		return all
	}
	s, _ := node(level, index-1, size)
	return append([]api.Span{s}, all...)
}

// greatBatch: of all nodes that have leaves, none of them in the stretch, those that lie in no greater one of that kind.
func greatBatch(begin, end, size uint64) []api.Span {
	var all []api.Span
	for at := uint64(0); at < size; {
		if at == begin {
			at = end
			continue
		}
		var found api.Span
		for level := range 64 {
			s, ok := node(level, at>>level, size)
			if ok && s.Begin == at && (s.End <= begin || at >= end) {
				found = s
			}
		}
		all = append(all, found)
		at = found.End
	}
	return all
}

// greatSizes: powers of two and their neighbours up to the greatest size, and some by chance.
func greatSizes() []uint64 {
	rnd := rand.New(rand.NewSource(7))
	all := []uint64{1, most - 2, most - 1, most}
	for e := 1; e < 63; e++ {
		p := uint64(1) << e
		all = append(all, p-1, p, p+1, p+p/2, rnd.Uint64()>>(64-e)|1, most-p)
	}
	slices.Sort(all)
	return slices.Compact(all)
}

// within: numbers from 0 to size: the first and the last ones, those about the split, some by chance.
func within(size uint64, rnd *rand.Rand) []uint64 {
	k := uint64(1)
	for k < size-k { // 2 * k would wrap round at the greatest size
		k *= 2
	}
	all := []uint64{0, 1, 2, 3, size / 3, size / 2, k / 2, k - 1, k, k + 1, size - 2, size - 1, size}
	for range 4 {
		all = append(all, rnd.Uint64()%size, rnd.Uint64()%size>>rnd.Intn(63))
	}
	all = slices.DeleteFunc(all, func(n uint64) bool { return n > size })
	slices.Sort(all)
	return slices.Compact(all)
}

// noSizes: all that are above the greatest one.
func noSizes() []uint64 {
	all := []uint64{greatest, greatest - 1, most + most/2}
	for e := range 63 {
		all = append(all, most+1<<e)
	}
	return all
}

// P7.1

func checkSplit(t *testing.T, n, want uint64, wantOK bool) {
	t.Helper()
	if k, ok := shape.Split(n); k != want || ok != wantOK {
		t.Errorf("Split(%d) = %d, %v; want %d, %v", n, k, ok, want, wantOK)
	}
}

func TestSplitExamples(t *testing.T) {
	checkSplit(t, 1, 0, false)
	checkSplit(t, 2, 1, true)
	checkSplit(t, 5, 4, true)
	checkSplit(t, 8, 4, true)
	checkSplit(t, 9223372036854775808, 4611686018427387904, true)
	checkSplit(t, 9223372036854775809, 0, false)
}

func TestSplitOfSmallNumbers(t *testing.T) {
	checkSplit(t, 0, 0, false)
	checkSplit(t, 1, 0, false)
	for n := 2; n < 3000; n++ {
		checkSplit(t, uint64(n), uint64(greatestBelow(n)), true)
	}
}

func TestSplitAboutPowersOfTwo(t *testing.T) {
	for e := 2; e < 63; e++ {
		p := uint64(1) << e
		checkSplit(t, p-1, p/2, true)
		checkSplit(t, p, p/2, true)
		checkSplit(t, p+1, p, true)
		checkSplit(t, p+p/2, p, true)
	}
	checkSplit(t, most-1, most/2, true)
	checkSplit(t, most, most/2, true)
}

func TestSplitOfWhatIsNoSize(t *testing.T) {
	for _, n := range noSizes() {
		checkSplit(t, n, 0, false)
	}
}

// P7.2

func TestPathExamples(t *testing.T) {
	checkPath(t, 0, 3, row(1, 2, 2, 3))
	checkPath(t, 2, 3, row(0, 2))
	checkPath(t, 4, 5, row(0, 4))
	checkPath(t, 0, 1, nil)
	checkNoPath(t, 3, 3)
	checkNoPath(t, 0, 0)
	checkNoPath(t, 0, 9223372036854775809)
}

func TestPathInSmallSizes(t *testing.T) {
	for n := 1; n <= 140; n++ {
		d := firstLeaves(n)
		for m := range n {
			checkPath(t, uint64(m), uint64(n), stretches(wantPath(m, d)))
		}
	}
}

func TestPathInGreatSizes(t *testing.T) {
	rnd := rand.New(rand.NewSource(2))
	for _, size := range greatSizes() {
		for _, index := range within(size, rnd) {
			if index < size {
				checkPath(t, index, size, greatPath(index, size))
			}
		}
	}
}

func TestPathInTheGreatestSize(t *testing.T) {
	var first, last []api.Span
	for e := range 63 {
		p := uint64(1) << e
		first = append(first, stretch(p, 2*p))
		last = append(last, stretch(most-2*p, most-p))
	}
	checkPath(t, 0, most, first)
	checkPath(t, most-1, most, last)
	checkPath(t, most-2, most-1, last[1:])
}

func TestPathOfWhatMayNotBe(t *testing.T) {
	for _, size := range append(greatSizes(), 0) {
		for _, index := range []uint64{size, size + 1, size + 2, most + 1, greatest - 1, greatest} {
			checkNoPath(t, index, size)
		}
	}
	for _, size := range noSizes() {
		for _, index := range []uint64{0, 1, 2, most - 1, most, most + 1, size - 1, size, size + 1, greatest} {
			checkNoPath(t, index, size)
		}
	}
}

// P7.3

func TestProofExamples(t *testing.T) {
	checkProof(t, 2, 3, row(2, 3))
	checkProof(t, 1, 3, row(1, 2, 2, 3))
	checkProof(t, 3, 3, nil)
	checkProof(t, 3, 5, row(2, 3, 3, 4, 0, 2, 4, 5))
	checkProof(t, 4, 7, row(4, 7))
	checkProof(t, 6, 8, row(4, 6, 6, 8, 0, 4))
	checkNoProof(t, 0, 3)
	checkNoProof(t, 4, 3)
}

func TestProofInSmallSizes(t *testing.T) {
	for n := 1; n <= 140; n++ {
		d := firstLeaves(n)
		for m := 1; m <= n; m++ {
			checkProof(t, uint64(m), uint64(n), stretches(wantProof(m, d)))
		}
	}
}

func TestProofInGreatSizes(t *testing.T) {
	rnd := rand.New(rand.NewSource(3))
	for _, size := range greatSizes() {
		for _, old := range within(size, rnd) {
			if old > 0 {
				checkProof(t, old, size, greatProof(old, size))
			}
		}
	}
}

func TestProofToTheGreatestSize(t *testing.T) {
	var fromOne []api.Span
	for e := range 63 {
		fromOne = append(fromOne, stretch(1<<e, 2<<e))
	}
	checkProof(t, 1, most, fromOne)
	checkProof(t, most/2, most, row(most/2, most))
	checkProof(t, most, most, nil)
	fromAllButOne := row(most-2, most-1, most-1, most)
	for e := 1; e < 63; e++ {
		fromAllButOne = append(fromAllButOne, stretch(most-2<<e, most-1<<e))
	}
	checkProof(t, most-1, most, fromAllButOne)
	if len(fromAllButOne) != 64 {
		t.Errorf("%d stretches", len(fromAllButOne))
	}
}

func TestProofOfWhatMayNotBe(t *testing.T) {
	checkNoProof(t, 0, 0)
	for _, size := range append(greatSizes(), 0) {
		for _, old := range []uint64{0, size + 1, size + 2, most + 1, greatest - 1, greatest} {
			checkNoProof(t, old, size)
		}
	}
	for _, size := range noSizes() {
		for _, old := range []uint64{0, 1, 2, most - 1, most, most + 1, size - 1, size, size + 1, greatest} {
			checkNoProof(t, old, size)
		}
	}
}

// P7.4

func TestBatchExamples(t *testing.T) {
	checkBatch(t, 1, 3, 5, row(0, 1, 3, 4, 4, 5))
	checkBatch(t, 0, 5, 5, nil)
	checkBatch(t, 4, 5, 5, row(0, 4))
	checkBatch(t, 2, 4, 7, row(0, 2, 4, 7))
	checkNoBatch(t, 1, 1, 5)
	checkNoBatch(t, 2, 1, 5)
	checkNoBatch(t, 4, 6, 5)
}

func TestBatchInSmallSizes(t *testing.T) {
	for n := 1; n <= 48; n++ {
		d := firstLeaves(n)
		for begin := range uint64(n) {
			for end := begin + 1; end <= uint64(n); end++ {
				checkBatch(t, begin, end, uint64(n), stretches(wantBatch(begin, end, d)))
			}
		}
	}
}

func TestBatchInGreatSizes(t *testing.T) {
	rnd := rand.New(rand.NewSource(4))
	for _, size := range greatSizes() {
		ends := within(size, rnd)
		for i, begin := range ends {
			end := begin + 1
			if end <= size {
				checkBatch(t, begin, end, size, greatBatch(begin, end, size))
			}
			for j := i + 1; j < len(ends); j += 1 + rnd.Intn(6) {
				checkBatch(t, begin, ends[j], size, greatBatch(begin, ends[j], size))
			}
			if begin < size {
				checkBatch(t, begin, size, size, greatBatch(begin, size, size))
			}
		}
	}
}

func TestBatchInTheGreatestSize(t *testing.T) {
	checkBatch(t, 0, most, most, nil)
	checkBatch(t, 0, most-1, most, row(most-1, most))
	checkBatch(t, 1, most, most, row(0, 1))
	checkBatch(t, 1, most-1, most, row(0, 1, most-1, most))
	checkBatch(t, most/2, most, most, row(0, most/2))
	var aroundTheMidst []api.Span // the leaves on both sides of it
	for e := 61; e >= 0; e-- {
		aroundTheMidst = append(aroundTheMidst, stretch(most/2-2<<e, most/2-1<<e))
	}
	for e := range 62 {
		aroundTheMidst = append(aroundTheMidst, stretch(most/2+1<<e, most/2+2<<e))
	}
	checkBatch(t, most/2-1, most/2+1, most, aroundTheMidst)
}

func TestBatchOfAllLeaves(t *testing.T) {
	for _, size := range greatSizes() {
		checkBatch(t, 0, size, size, nil)
	}
}

func TestBatchOfWhatMayNotBe(t *testing.T) {
	checkNoBatch(t, 0, 0, 0)
	checkNoBatch(t, 0, 1, 0)
	for _, size := range append(greatSizes(), 0) {
		for _, at := range []uint64{0, 1, size - 1, size, size + 1, most, most + 1, greatest} {
			checkNoBatch(t, at, at, size)
			if at > 0 {
				checkNoBatch(t, at, at-1, size)
				checkNoBatch(t, at, 0, size)
			}
			checkNoBatch(t, at, size+1, size)
			checkNoBatch(t, at, greatest, size)
		}
	}
	for _, size := range noSizes() {
		checkNoBatch(t, 0, 1, size)
		checkNoBatch(t, 0, most, size)
		checkNoBatch(t, 0, size, size)
		checkNoBatch(t, most-1, most, size)
		checkNoBatch(t, most, most+1, size)
		checkNoBatch(t, size-1, size, size)
		checkNoBatch(t, 1, 1, size)
		checkNoBatch(t, size, 0, size)
	}
}

// P7.5

func TestPeaksExamples(t *testing.T) {
	checkPeaks(t, 0, nil)
	checkPeaks(t, 7, []api.Coord{tree(2, 0), tree(1, 2), tree(0, 6)})
	checkPeaks(t, 8, []api.Coord{tree(3, 0)})
	checkPeaks(t, most, []api.Coord{tree(63, 0)})
}

// fewestTrees: for each size up to n, by trying all whole trees that end there: the shortest row, and how many rows are that short.
func fewestTrees(n uint64) (rows [][]api.Coord, ways []int) {
	rows, ways = make([][]api.Coord, n+1), make([]int, n+1)
	ways[0] = 1
	for size := uint64(1); size <= n; size++ {
		for level := uint8(0); size>>level > 0; level++ {
			index := size>>level - 1
			begin := index << level
			if (index+1)<<level != size {
				continue
			}
			longer := append(slices.Clone(rows[begin]), tree(level, index))
			switch {
			case ways[size] == 0 || len(longer) < len(rows[size]):
				rows[size], ways[size] = longer, ways[begin]
			case len(longer) == len(rows[size]):
				ways[size] += ways[begin]
			}
		}
	}
	return rows, ways
}

func TestPeaksOfSmallSizes(t *testing.T) {
	rows, ways := fewestTrees(1100)
	for size, want := range rows {
		if ways[size] != 1 {
			t.Fatalf("%d rows of trees of %d leaves", ways[size], size)
		}
		checkPeaks(t, uint64(size), want)
	}
}

// greatPeaks: a tree for each power of two in the size, the greatest first.
func greatPeaks(size uint64) []api.Coord {
	var all []api.Coord
	begin := uint64(0)
	for level := 63; level >= 0; level-- {
		if size>>level&1 == 1 {
			all = append(all, tree(uint8(level), begin>>level))
			begin += 1 << level
		}
	}
	return all
}

func TestPeaksOfGreatSizes(t *testing.T) {
	for _, size := range greatSizes() {
		checkPeaks(t, size, greatPeaks(size))
	}
}

func TestPeaksOfOneLessThanAll(t *testing.T) {
	var all []api.Coord
	for level := 62; level >= 0; level-- {
		all = append(all, tree(uint8(level), most>>level-2))
	}
	checkPeaks(t, most-1, all)
}

func TestPeaksOfWhatIsNoSize(t *testing.T) {
	for _, size := range noSizes() {
		checkNoPeaks(t, size)
	}
}

// R4: what one call gives is memory of its own, spare room too.

// checkOwnMemory: what is written into one answer, and into its spare room, is seen in no other one.
func checkOwnMemory[T comparable](t *testing.T, what string, call func() ([]T, error), mark T) {
	t.Helper()
	first, err := call()
	second, _ := call()
	if err != nil {
		t.Fatalf("%s: %v", what, err)
	}
	want := slices.Clone(first)
	room := first[:cap(first)]
	for i := range room {
		room[i] = mark
	}
	if slices.Contains(second[:cap(second)], mark) {
		t.Errorf("two answers of %s share memory", what)
	}
	third, err := call()
	checkRow(t, what, third, err, want)
}

func TestAnswersAreNewMemory(t *testing.T) {
	mark := stretch(77, 7)
	for _, size := range []uint64{1, 2, 3, 5, 7, 8, 100, most - 1, most} {
		for _, at := range []uint64{0, size / 3, size / 2, size - 1} {
			checkOwnMemory(t, "Path", func() ([]api.Span, error) { return shape.Path(at, size) }, mark)
			checkOwnMemory(t, "Proof", func() ([]api.Span, error) { return shape.Proof(at+1, size) }, mark)
			checkOwnMemory(t, "Batch", func() ([]api.Span, error) { return shape.Batch(at, at+1, size) }, mark)
			checkOwnMemory(t, "Batch", func() ([]api.Span, error) { return shape.Batch(at/2, at+1, size) }, mark)
		}
		checkOwnMemory(t, "Peaks", func() ([]api.Coord, error) { return shape.Peaks(size) }, tree(77, 77))
	}
}

// P7.6

func path(t *testing.T, index, size uint64) []api.Span {
	t.Helper()
	l, err := shape.Path(index, size)
	if err != nil {
		t.Fatalf("Path(%d, %d): %v", index, size, err)
	}
	return l
}

func proof(t *testing.T, old, size uint64) []api.Span {
	t.Helper()
	l, err := shape.Proof(old, size)
	if err != nil {
		t.Fatalf("Proof(%d, %d): %v", old, size, err)
	}
	return l
}

func batch(t *testing.T, begin, end, size uint64) []api.Span {
	t.Helper()
	l, err := shape.Batch(begin, end, size)
	if err != nil {
		t.Fatalf("Batch(%d, %d, %d): %v", begin, end, size, err)
	}
	return l
}

func byBegin(a, b api.Span) int { return cmp.Compare(a.Begin, b.Begin) }

// sorted: the stretches and further ones, as they stand.
func sorted(all []api.Span, more ...api.Span) []api.Span {
	together := slices.Concat(all, more)
	slices.SortFunc(together, byBegin)
	return together
}

// fills: whether the stretches, none of them empty, follow each other from begin to end without a gap.
func fills(all []api.Span, begin, end uint64) bool {
	for _, s := range all {
		if s.Begin != begin || s.End <= s.Begin {
			return false
		}
		begin = s.End
	}
	return begin == end
}

func checkWhatFollowsOfAPath(t *testing.T, index, size uint64) {
	t.Helper()
	l := path(t, index, size)
	if !fills(sorted(l, stretch(index, index+1)), 0, size) {
		t.Fatalf("Path(%d, %d) = %v: with the leaf it is not all leaves, each once", index, size, l)
	}
	if log, _ := bits.Log(size); len(l) > log {
		t.Fatalf("Path(%d, %d) has %d stretches", index, size, len(l))
	}
	if alone := batch(t, index, index+1, size); !slices.Equal(sorted(l), alone) {
		t.Fatalf("Path(%d, %d) = %v; the batch proof of the leaf is %v", index, size, l, alone)
	}
}

func checkWhatFollowsOfAProof(t *testing.T, old, size uint64) {
	t.Helper()
	l := proof(t, old, size)
	if log, _ := bits.Log(size); len(l) > log+1 {
		t.Fatalf("Proof(%d, %d) has %d stretches", old, size, len(l))
	}
	all := sorted(l)
	at := uint64(0)
	for _, s := range all {
		if s.Begin < at || s.End <= s.Begin {
			t.Fatalf("Proof(%d, %d) = %v: a leaf stands in two stretches, or one is empty", old, size, l)
		}
		if s.Begin < old && s.End > old {
			t.Fatalf("Proof(%d, %d) = %v: %v goes over the old end", old, size, l, s)
		}
		at = s.End
	}
	behind := slices.DeleteFunc(all, func(s api.Span) bool { return s.Begin < old })
	if !fills(behind, old, size) {
		t.Fatalf("Proof(%d, %d) = %v: not all leaves from %d on", old, size, l, old)
	}
}

func checkWhatFollowsOfABatch(t *testing.T, begin, end, size uint64) {
	t.Helper()
	l := batch(t, begin, end, size)
	if !slices.IsSortedFunc(l, byBegin) {
		t.Fatalf("Batch(%d, %d, %d) = %v: they do not rise", begin, end, size, l)
	}
	if !fills(sorted(l, stretch(begin, end)), 0, size) {
		t.Fatalf("Batch(%d, %d, %d) = %v: with its stretch it is not all leaves, each once", begin, end, size, l)
	}
}

func checkWhatFollowsOfPeaks(t *testing.T, size uint64) {
	t.Helper()
	l, err := shape.Peaks(size)
	if err != nil {
		t.Fatalf("Peaks(%d): %v", size, err)
	}
	if len(l) != bits.Count(size) {
		t.Fatalf("Peaks(%d) = %v: the size has %d ones", size, l, bits.Count(size))
	}
	var all []api.Span
	for i, c := range l {
		s, ok := coord.Span(c)
		if !ok || i > 0 && c.Level >= l[i-1].Level {
			t.Fatalf("Peaks(%d) = %v: one may not be, or the levels do not fall", size, l)
		}
		all = append(all, s)
	}
	if !fills(all, 0, size) {
		t.Fatalf("Peaks(%d) = %v: not all leaves, from the left", size, l)
	}
}

func TestWhatFollowsInSmallSizes(t *testing.T) {
	checkWhatFollowsOfPeaks(t, 0)
	for size := uint64(1); size <= 70; size++ {
		checkWhatFollowsOfPeaks(t, size)
		for at := range size {
			checkWhatFollowsOfAPath(t, at, size)
			checkWhatFollowsOfAProof(t, at+1, size)
			for end := at + 1; end <= size; end++ {
				checkWhatFollowsOfABatch(t, at, end, size)
			}
		}
	}
}

func TestWhatFollowsInGreatSizes(t *testing.T) {
	rnd := rand.New(rand.NewSource(5))
	for _, size := range greatSizes() {
		checkWhatFollowsOfPeaks(t, size)
		numbers := within(size, rnd)
		for i, at := range numbers {
			if at < size {
				checkWhatFollowsOfAPath(t, at, size)
				checkWhatFollowsOfAProof(t, at+1, size)
			}
			for _, end := range numbers[i+1:] {
				checkWhatFollowsOfABatch(t, at, end, size)
			}
		}
	}
}

// The bounds are met: there are paths and proofs with as many stretches as may be.
func TestAsManyAsMayBe(t *testing.T) {
	for e := 2; e < 63; e++ {
		for _, size := range []uint64{1 << e, 1<<e + 1} {
			log, _ := bits.Log(size)
			if n := len(path(t, 0, size)); n != log {
				t.Errorf("Path(0, %d) has %d stretches; want %d", size, n, log)
			}
			if n := len(proof(t, 3, size)); n != log+1 {
				t.Errorf("Proof(3, %d) has %d stretches; want %d", size, n, log+1)
			}
		}
	}
}

// R5: the same whoever asked what ahead of it, and side by side.
func TestCallsSideBySide(t *testing.T) {
	done := make(chan bool)
	for begin := range uint64(8) {
		go func() {
			right := true
			for size := begin + 1; size < 60; size++ {
				l, err := shape.Batch(begin, begin+1, size)
				right = right && err == nil && slices.Equal(l, greatBatch(begin, begin+1, size))
				l, err = shape.Path(begin, size)
				right = right && err == nil && slices.Equal(l, greatPath(begin, size))
				l, err = shape.Proof(begin+1, size)
				right = right && err == nil && slices.Equal(l, greatProof(begin+1, size))
			}
			done <- right
		}()
	}
	for range 8 {
		if !<-done {
			t.Error("another answer beside other calls")
		}
	}
}
