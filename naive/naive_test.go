package naive_test

import (
	"crypto/sha256"
	"errors"
	"fmt"
	"math/rand"
	"slices"
	"strconv"
	"strings"
	"testing"
	"unsafe"

	"cartulary/api"
	"cartulary/hash"
	"cartulary/naive"
	"cartulary/shape"
)

const greatest uint64 = 1<<64 - 1

func stretch(begin, end uint64) api.Span { return api.Span{Begin: begin, End: end} }

// tableErrors are the errors of the document's table, in its order.
func tableErrors() []error {
	return []error{
		api.ErrNil, api.ErrArg, api.ErrInput, api.ErrLimit, api.ErrRange, api.ErrGone, api.ErrUnavailable, api.ErrDead,
		api.ErrCorrupt, api.ErrProof, api.ErrSpent, api.ErrSigned, api.ErrFork, api.ErrOld, api.ErrStopped, api.ErrScript,
	}
}

// checkOnly: got is that error of the table, no other one, and tells no place.
func checkOnly(t *testing.T, what string, got, want error) {
	t.Helper()
	for _, e := range tableErrors() {
		if errors.Is(got, e) != (e == want) {
			t.Fatalf("%s: got %v, want %v: errors.Is says %v of %v", what, got, want, errors.Is(got, e), e)
		}
	}
	var f *api.Fault
	if errors.As(got, &f) && f.At != 0 {
		t.Fatalf("%s tells the place %d", what, f.At)
	}
}

// checkRefused: that error alone, with a zero value beside it.
func checkRefused[T comparable](t *testing.T, what string, got T, err, want error) {
	t.Helper()
	checkOnly(t, what, err, want)
	var zero T
	if got != zero {
		t.Fatalf("%s answers %v beside an error", what, got)
	}
}

// checkNoRow: that error alone, without a hash.
func checkNoRow(t *testing.T, what string, got []api.Hash, err, want error) {
	t.Helper()
	checkOnly(t, what, err, want)
	if len(got) != 0 {
		t.Fatalf("%s answers %d hashes beside an error", what, len(got))
	}
}

func checkRow(t *testing.T, what string, got []api.Hash, err error, want []api.Hash) {
	t.Helper()
	if err != nil || !slices.Equal(got, want) {
		t.Fatalf("%s = %x, %v; want %x", what, got, err, want)
	}
}

func checkHash(t *testing.T, what string, got api.Hash, err error, want api.Hash) {
	t.Helper()
	if err != nil || got != want {
		t.Fatalf("%s = %x, %v; want %x", what, got, err, want)
	}
}

func checkSize(t *testing.T, l *naive.Log, want uint64) {
	t.Helper()
	if got := l.Size(); got != want {
		t.Fatalf("Size = %d, want %d", got, want)
	}
}

func checkLeaf(t *testing.T, l *naive.Log, index uint64, want string) {
	t.Helper()
	if got, err := l.Leaf(index); err != nil || got != want {
		t.Fatalf("Leaf(%d) = %s, %v; want %s", index, brief(got), err, brief(want))
	}
}

func checkNoLeaf(t *testing.T, l *naive.Log, index uint64) {
	t.Helper()
	got, err := l.Leaf(index)
	checkRefused(t, fmt.Sprintf("Leaf(%d)", index), got, err, api.ErrRange)
}

func checkTree(t *testing.T, l *naive.Log, s api.Span, want api.Hash) {
	t.Helper()
	got, err := l.Tree(s)
	checkHash(t, fmt.Sprintf("Tree(%v)", s), got, err, want)
}

func checkNoTree(t *testing.T, l *naive.Log, s api.Span) {
	t.Helper()
	got, err := l.Tree(s)
	checkRefused(t, fmt.Sprintf("Tree(%v)", s), got, err, api.ErrRange)
}

func checkRoot(t *testing.T, l *naive.Log, size uint64, want api.Hash) {
	t.Helper()
	got, err := l.Root(size)
	checkHash(t, fmt.Sprintf("Root(%d)", size), got, err, want)
}

func checkNoRoot(t *testing.T, l *naive.Log, size uint64) {
	t.Helper()
	got, err := l.Root(size)
	checkRefused(t, fmt.Sprintf("Root(%d)", size), got, err, api.ErrRange)
}

func checkPath(t *testing.T, l *naive.Log, index, size uint64, want []api.Hash) {
	t.Helper()
	got, err := l.Path(index, size)
	checkRow(t, fmt.Sprintf("Path(%d, %d)", index, size), got, err, want)
}

func checkNoPath(t *testing.T, l *naive.Log, index, size uint64) {
	t.Helper()
	got, err := l.Path(index, size)
	checkNoRow(t, fmt.Sprintf("Path(%d, %d)", index, size), got, err, api.ErrRange)
}

func checkProof(t *testing.T, l *naive.Log, old, size uint64, want []api.Hash) {
	t.Helper()
	got, err := l.Proof(old, size)
	checkRow(t, fmt.Sprintf("Proof(%d, %d)", old, size), got, err, want)
}

func checkNoProof(t *testing.T, l *naive.Log, old, size uint64) {
	t.Helper()
	got, err := l.Proof(old, size)
	checkNoRow(t, fmt.Sprintf("Proof(%d, %d)", old, size), got, err, api.ErrRange)
}

func checkBatch(t *testing.T, l *naive.Log, begin, end, size uint64, want []api.Hash) {
	t.Helper()
	got, err := l.Batch(begin, end, size)
	checkRow(t, fmt.Sprintf("Batch(%d, %d, %d)", begin, end, size), got, err, want)
}

func checkNoBatch(t *testing.T, l *naive.Log, begin, end, size uint64) {
	t.Helper()
	got, err := l.Batch(begin, end, size)
	checkNoRow(t, fmt.Sprintf("Batch(%d, %d, %d)", begin, end, size), got, err, api.ErrRange)
}

func brief(s string) string {
	if len(s) > 40 {
		return strconv.Quote(s[:40]) + ".. of " + strconv.Itoa(len(s)) + " bytes"
	}
	return strconv.Quote(s)
}

// The definitions of the document, word by word, on lists of leaves, with the library's SHA-256.

func sum(parts ...string) api.Hash {
	return api.Hash(sha256.Sum256([]byte(strings.Join(parts, ""))))
}

func wantNode(a, b api.Hash) api.Hash { return sum("\x01", string(a[:]), string(b[:])) }

// greatestBelow: the greatest power of two below n, which is above 1.
func greatestBelow(n int) int {
	k := 1
	for 2*k < n {
		k *= 2
	}
	return k
}

func wantMTH(d []string) api.Hash {
	switch len(d) {
	case 0:
		return sum()
	case 1:
		return sum("\x00", d[0])
	}
	k := greatestBelow(len(d))
	return wantNode(wantMTH(d[:k]), wantMTH(d[k:]))
}

func wantPath(m int, d []string) []api.Hash {
	if len(d) == 1 {
		return nil
	}
	k := greatestBelow(len(d))
	if m < k {
		return append(wantPath(m, d[:k]), wantMTH(d[k:]))
	}
	return append(wantPath(m-k, d[k:]), wantMTH(d[:k]))
}

func wantProof(m int, d []string) []api.Hash {
	if m == len(d) {
		return nil
	}
	return wantSub(m, d, true)
}

func wantSub(m int, d []string, b bool) []api.Hash {
	if m == len(d) {
		if b {
			return nil
		}
		return []api.Hash{wantMTH(d)}
	}
	k := greatestBelow(len(d))
	if m <= k {
		return append(wantSub(m, d[:k], b), wantMTH(d[k:]))
	}
	return append(wantSub(m-k, d[k:], false), wantMTH(d[:k]))
}

// wantBatch: first is the number of the leaf d[0].
func wantBatch(begin, end, first int, d []string) []api.Hash {
	inside := 0
	for i := range d {
		if begin <= first+i && first+i < end {
			inside++
		}
	}
	switch inside {
	case len(d):
		return nil
	case 0:
		return []api.Hash{wantMTH(d)}
	}
	k := greatestBelow(len(d))
	return append(wantBatch(begin, end, first, d[:k]), wantBatch(begin, end, first+k, d[k:])...)
}

func logOf(t *testing.T, leaves ...string) *naive.Log {
	t.Helper()
	l := naive.New()
	appendAll(t, l, leaves)
	return l
}

func appendAll(t *testing.T, l *naive.Log, leaves []string) {
	t.Helper()
	for _, data := range leaves {
		size := l.Size()
		if index, err := l.Append(data); index != size || err != nil {
			t.Fatalf("Append of %s to %d leaves = %d, %v", brief(data), size, index, err)
		}
	}
}

// someLeaves: so many, of which no two that stand side by side are the same, but some are; the empty one among them, and such as are no letters.
func someLeaves(count int) []string {
	rnd := rand.New(rand.NewSource(8))
	all := make([]string, count)
	for i := range all {
		switch i % 7 {
		case 0:
			all[i] = ""
		case 3:
			all[i] = "\x00\xff\n" + strconv.Itoa(i)
		case 5:
			b := make([]byte, 1+rnd.Intn(150))
			rnd.Read(b)
			all[i] = string(b)
		default:
			all[i] = "leaf " + strconv.Itoa(i)
		}
	}
	return all
}

func five(t *testing.T) *naive.Log { return logOf(t, "a", "b", "c", "d", "e") }

// The chapter's examples.

func TestExamplesOfALogWithoutLeaves(t *testing.T) {
	l := naive.New()
	checkSize(t, l, 0)
	checkRoot(t, l, 0, hash.Empty())
	checkTree(t, l, stretch(0, 0), hash.Empty())
	checkNoLeaf(t, l, 0)
	checkNoRoot(t, l, 1)
}

func TestExamplesOfFiveLeaves(t *testing.T) {
	l := naive.New()
	for i, data := range []string{"a", "b", "c", "d", "e"} {
		if index, err := l.Append(data); index != uint64(i) || err != nil {
			t.Fatalf("Append of %s = %d, %v", data, index, err)
		}
	}
	checkSize(t, l, 5)
	checkLeaf(t, l, 4, "e")
	checkNoLeaf(t, l, 5)
	long, err := l.Append(strings.Repeat("x", 65537))
	checkRefused(t, "Append of 65537 bytes", long, err, api.ErrLimit)
	checkSize(t, l, 5)
}

func TestExamplesOfHashes(t *testing.T) {
	l := five(t)
	a, b, c, d, e := hash.Leaf("a"), hash.Leaf("b"), hash.Leaf("c"), hash.Leaf("d"), hash.Leaf("e")
	ab, cd := hash.Node(a, b), hash.Node(c, d)
	four := hash.Node(ab, cd)
	checkRoot(t, l, 3, hash.Node(ab, c))
	checkTree(t, l, stretch(2, 4), cd)
	checkTree(t, l, stretch(3, 3), hash.Empty())
	checkPath(t, l, 0, 3, []api.Hash{b, c})
	checkPath(t, l, 2, 3, []api.Hash{ab})
	checkPath(t, l, 0, 1, nil)
	checkPath(t, l, 4, 5, []api.Hash{four})
	checkProof(t, l, 2, 3, []api.Hash{c})
	checkProof(t, l, 1, 3, []api.Hash{b, c})
	checkProof(t, l, 3, 3, nil)
	checkProof(t, l, 3, 5, []api.Hash{c, d, ab, e})
	checkBatch(t, l, 1, 3, 5, []api.Hash{a, d, e})
	checkBatch(t, l, 0, 5, 5, nil)
	checkBatch(t, l, 4, 5, 5, []api.Hash{four})
}

func TestExamplesOfWhatIsRefused(t *testing.T) {
	l := five(t)
	checkNoPath(t, l, 3, 3)
	checkNoPath(t, l, 0, 6)
	checkNoProof(t, l, 0, 3)
	checkNoProof(t, l, 4, 3)
	checkNoBatch(t, l, 2, 2, 5)
	checkNoBatch(t, l, 3, 2, 5)
	checkNoBatch(t, l, 0, 1, 6)
	checkNoTree(t, l, stretch(2, 1))
	checkNoTree(t, l, stretch(0, 6))
	var none *naive.Log
	index, err := none.Append("")
	checkRefused(t, "Append", index, err, api.ErrNil)
	root, err := none.Root(0)
	checkRefused(t, "Root", root, err, api.ErrNil)
}

// The document's own examples: known hashes, so that nothing hangs on the tests' own definitions alone.
func TestKnownRoots(t *testing.T) {
	ends := func(h api.Hash) string { return fmt.Sprintf("%x..%x", h[:2], h[30:]) }
	l := naive.New()
	root, err := l.Root(0)
	if err != nil || ends(root) != "e3b0..b855" {
		t.Errorf("the root of no leaves: %s, %v", ends(root), err)
	}
	appendAll(t, l, []string{""})
	root, err = l.Root(1)
	if err != nil || ends(root) != "6e34..a01d" {
		t.Errorf("the root of the empty leaf: %s, %v", ends(root), err)
	}
}

// P8.1

func TestNew(t *testing.T) {
	l := naive.New()
	if l == nil {
		t.Fatal("New answers nil")
	}
	checkSize(t, l, 0)
	for _, n := range []uint64{0, 1, api.MaxSize, 1 << 63, greatest} {
		checkNoLeaf(t, l, n)
		checkNoPath(t, l, n, 0)
		checkNoPath(t, l, 0, n)
		checkNoProof(t, l, n, 0)
		checkNoProof(t, l, 0, n)
		checkNoProof(t, l, n, n)
		checkNoBatch(t, l, 0, n, n)
		checkNoBatch(t, l, 0, 0, n)
		checkNoBatch(t, l, 0, n, 0)
		if n > 0 {
			checkNoRoot(t, l, n)
			checkNoTree(t, l, stretch(0, n))
			checkNoTree(t, l, stretch(n, n))
			checkNoTree(t, l, stretch(n, 0))
		}
	}
	checkRoot(t, l, 0, sum())
	checkTree(t, l, stretch(0, 0), sum())
	checkSize(t, l, 0)
}

// P8.2

func TestAppendTellsTheNumber(t *testing.T) {
	l := naive.New()
	for i, data := range someLeaves(300) {
		if index, err := l.Append(data); index != uint64(i) || err != nil {
			t.Fatalf("Append of leaf %d = %d, %v", i, index, err)
		}
		checkSize(t, l, uint64(i)+1)
		checkLeaf(t, l, uint64(i), data)
		checkNoLeaf(t, l, uint64(i)+1)
	}
}

func TestAppendOfTheSameLeaf(t *testing.T) {
	l := logOf(t, "a", "a", "a", "", "")
	checkSize(t, l, 5)
	checkRoot(t, l, 5, wantMTH([]string{"a", "a", "a", "", ""}))
}

func TestAppendAboutTheLongestLeaf(t *testing.T) {
	l := logOf(t, "")
	checkSize(t, l, 1)
	checkLeaf(t, l, 0, "")
	want := []string{""}
	for _, length := range []int{1, api.MaxLeaf - 1, api.MaxLeaf} {
		data := strings.Repeat("\xfe", length)
		appendAll(t, l, []string{data})
		want = append(want, data)
		checkSize(t, l, uint64(len(want)))
		checkLeaf(t, l, l.Size()-1, data)
	}
	checkRoot(t, l, l.Size(), wantMTH(want))
	for _, length := range []int{api.MaxLeaf + 1, api.MaxLeaf + 2, 2 * api.MaxLeaf, api.MaxText + 1} {
		index, err := l.Append(strings.Repeat("\xfe", length))
		checkRefused(t, fmt.Sprintf("Append of %d bytes", length), index, err, api.ErrLimit)
		checkSize(t, l, uint64(len(want)))
		checkNoLeaf(t, l, uint64(len(want)))
		checkRoot(t, l, l.Size(), wantMTH(want))
	}
	appendAll(t, l, []string{"behind"}) // gets the number that the refused ones did not take
	checkRoot(t, l, l.Size(), wantMTH(append(want, "behind")))
}

func TestAppendToTheGreatestLog(t *testing.T) {
	l := naive.New()
	for i := range uint64(api.MaxSize) {
		if index, err := l.Append(""); index != i || err != nil {
			t.Fatalf("Append of leaf %d = %d, %v", i, index, err)
		}
	}
	for _, data := range []string{"", "a", strings.Repeat("a", api.MaxLeaf), strings.Repeat("a", api.MaxLeaf+1)} {
		index, err := l.Append(data)
		checkRefused(t, "Append of "+brief(data)+" to the greatest log", index, err, api.ErrLimit)
		checkSize(t, l, api.MaxSize)
	}
	checkLeaf(t, l, api.MaxSize-1, "")
	checkNoLeaf(t, l, api.MaxSize)
	level := sum("\x00")
	var path []api.Hash
	for size := 1; size < api.MaxSize; size *= 2 {
		path = append(path, level)
		level = wantNode(level, level) // all leaves are the same: so are all whole trees of one level
	}
	checkRoot(t, l, api.MaxSize, level)
	checkPath(t, l, api.MaxSize-1, api.MaxSize, path)
	checkNoRoot(t, l, api.MaxSize+1)
	checkNoPath(t, l, 0, api.MaxSize+1)
}

// P8.3

func TestLeafAtTheEdges(t *testing.T) {
	for _, n := range []int{1, 2, 3, 8, 100} {
		leaves := someLeaves(n)
		l := logOf(t, leaves...)
		for i, data := range leaves {
			checkLeaf(t, l, uint64(i), data)
		}
		size := uint64(n)
		for _, index := range []uint64{size, size + 1, 2 * size, api.MaxSize, 1 << 32, 1<<32 + size - 1, 1 << 63, 1<<63 + size - 1, greatest - 1, greatest} {
			if index >= size {
				checkNoLeaf(t, l, index)
			}
		}
		checkSize(t, l, size)
	}
}

// P8.4

func TestTreeOfAllStretches(t *testing.T) {
	const most = 40
	leaves := someLeaves(most)
	l := naive.New()
	for n := 0; ; n++ {
		for begin := range n + 1 {
			for end := begin; end <= n; end++ {
				checkTree(t, l, stretch(uint64(begin), uint64(end)), wantMTH(leaves[begin:end]))
			}
		}
		if n == most {
			return
		}
		appendAll(t, l, leaves[n:n+1])
	}
}

// Of stretches that begin anywhere: their parts are no whole trees of the log.
func TestTreeOfLongStretches(t *testing.T) {
	leaves := someLeaves(700)
	l := logOf(t, leaves...)
	rnd := rand.New(rand.NewSource(4))
	for range 200 {
		begin := rnd.Intn(701)
		end := begin + rnd.Intn(701-begin)
		checkTree(t, l, stretch(uint64(begin), uint64(end)), wantMTH(leaves[begin:end]))
	}
}

func TestTreeOfNoLeaves(t *testing.T) {
	for n := range 20 {
		l := logOf(t, someLeaves(n)...)
		for at := range uint64(n) + 1 {
			checkTree(t, l, stretch(at, at), sum())
		}
	}
}

func TestTreeOfWhatMayNotBe(t *testing.T) {
	for n := range uint64(20) {
		l := logOf(t, someLeaves(int(n))...)
		for begin := range n + 3 {
			for end := range begin { // turned round
				checkNoTree(t, l, stretch(begin, end))
			}
		}
		for _, begin := range []uint64{0, 1, n, n + 1, 1 << 63, greatest} {
			for _, end := range []uint64{n + 1, n + 2, 1<<32 + n, 1 << 63, 1<<63 + n, greatest} {
				checkNoTree(t, l, stretch(begin, end))
			}
		}
		for _, begin := range []uint64{1<<32 + n, 1 << 63, greatest - 1, greatest} {
			checkNoTree(t, l, stretch(begin, n))
			checkNoTree(t, l, stretch(begin, 0))
		}
	}
}

func TestRootOfEachSize(t *testing.T) {
	leaves := someLeaves(150)
	l := logOf(t, leaves...)
	for n := range len(leaves) + 1 {
		checkRoot(t, l, uint64(n), wantMTH(leaves[:n]))
	}
}

func TestRootAboveTheSize(t *testing.T) {
	for n := range uint64(20) {
		l := logOf(t, someLeaves(int(n))...)
		for _, size := range []uint64{n + 1, n + 2, api.MaxSize, api.MaxSize + 1, 1<<32 + n, 1 << 63, 1<<63 + 1, greatest - 1, greatest} {
			checkNoRoot(t, l, size)
		}
	}
}

// P8.5

func TestPathInSmallSizes(t *testing.T) {
	leaves := someLeaves(40)
	l := logOf(t, leaves...)
	for n := 1; n <= len(leaves); n++ {
		for m := range n {
			checkPath(t, l, uint64(m), uint64(n), wantPath(m, leaves[:n]))
		}
	}
}

func TestProofInSmallSizes(t *testing.T) {
	leaves := someLeaves(40)
	l := logOf(t, leaves...)
	for n := 1; n <= len(leaves); n++ {
		for m := 1; m <= n; m++ {
			checkProof(t, l, uint64(m), uint64(n), wantProof(m, leaves[:n]))
		}
	}
}

func TestBatchInSmallSizes(t *testing.T) {
	leaves := someLeaves(22)
	l := logOf(t, leaves...)
	for n := 1; n <= len(leaves); n++ {
		for begin := range n {
			for end := begin + 1; end <= n; end++ {
				checkBatch(t, l, uint64(begin), uint64(end), uint64(n), wantBatch(begin, end, 0, leaves[:n]))
			}
		}
	}
}

func TestProofsInAGreaterLog(t *testing.T) {
	leaves := someLeaves(700)
	l := logOf(t, leaves...)
	rnd := rand.New(rand.NewSource(5))
	for _, n := range []int{255, 256, 257, 511, 512, 513, 699, 700} {
		for range 6 {
			m := rnd.Intn(n)
			end := m + 1 + rnd.Intn(n-m)
			checkPath(t, l, uint64(m), uint64(n), wantPath(m, leaves[:n]))
			checkProof(t, l, uint64(m)+1, uint64(n), wantProof(m+1, leaves[:n]))
			checkBatch(t, l, uint64(m), uint64(end), uint64(n), wantBatch(m, end, 0, leaves[:n]))
		}
	}
}

func TestProofsWithoutAHash(t *testing.T) {
	l := logOf(t, someLeaves(30)...)
	checkPath(t, l, 0, 1, nil)
	for n := uint64(1); n <= 30; n++ {
		checkProof(t, l, n, n, nil)
		checkBatch(t, l, 0, n, n, nil)
	}
}

// badNumbers: such as stand above n, where a short number might wrap round.
func badNumbers(n uint64) []uint64 {
	return []uint64{n + 1, n + 2, api.MaxSize + 1, 1 << 32, 1<<32 + n, 1 << 63, 1<<63 + 1, 1<<63 + n, greatest - 1, greatest}
}

func TestPathOfWhatMayNotBe(t *testing.T) {
	const most = 12
	l := logOf(t, someLeaves(most)...)
	for size := range uint64(most) + 1 {
		for _, index := range append(badNumbers(size), size) {
			checkNoPath(t, l, index, size)
		}
	}
	for _, size := range badNumbers(most) {
		for _, index := range []uint64{0, 1, most - 1, most, size - 1, size, size + 1, greatest} {
			checkNoPath(t, l, index, size)
		}
	}
}

func TestProofOfWhatMayNotBe(t *testing.T) {
	const most = 12
	l := logOf(t, someLeaves(most)...)
	for size := range uint64(most) + 1 {
		for _, old := range append(badNumbers(size), 0) {
			checkNoProof(t, l, old, size)
		}
	}
	for _, size := range badNumbers(most) {
		for _, old := range []uint64{0, 1, most - 1, most, size - 1, size, size + 1, greatest} {
			checkNoProof(t, l, old, size)
		}
	}
}

func TestBatchOfWhatMayNotBe(t *testing.T) {
	const most = 12
	l := logOf(t, someLeaves(most)...)
	for size := range uint64(most) + 1 {
		for begin := range size + 3 {
			for end := range begin + 1 { // empty, or turned round
				checkNoBatch(t, l, begin, end, size)
			}
			for _, end := range badNumbers(size) {
				checkNoBatch(t, l, begin, end, size)
			}
		}
		for _, begin := range badNumbers(size) {
			checkNoBatch(t, l, begin, 0, size)
			checkNoBatch(t, l, begin, size, size)
			checkNoBatch(t, l, begin, begin, size)
		}
	}
	for _, size := range badNumbers(most) {
		for _, begin := range []uint64{0, 1, most - 1, size - 1} {
			for _, end := range []uint64{0, 1, 2, most, size - 1, size, size + 1, greatest} {
				checkNoBatch(t, l, begin, end, size)
			}
		}
	}
}

// R3

func checkNotThere(t *testing.T, l *naive.Log) {
	t.Helper()
	checkSize(t, l, 0)
	for _, data := range []string{"", "a", strings.Repeat("a", api.MaxLeaf+1)} {
		index, err := l.Append(data)
		checkRefused(t, "Append", index, err, api.ErrNil)
	}
	for _, n := range []uint64{0, 1, 2, api.MaxSize, 1 << 63, greatest} {
		leaf, err := l.Leaf(n)
		checkRefused(t, "Leaf", leaf, err, api.ErrNil)
		root, err := l.Root(n)
		checkRefused(t, "Root", root, err, api.ErrNil)
		for _, m := range []uint64{0, 1, 2, 1 << 63, greatest} {
			tree, err := l.Tree(stretch(n, m))
			checkRefused(t, "Tree", tree, err, api.ErrNil)
			path, err := l.Path(n, m)
			checkNoRow(t, "Path", path, err, api.ErrNil)
			proof, err := l.Proof(n, m)
			checkNoRow(t, "Proof", proof, err, api.ErrNil)
			batch, err := l.Batch(n, m, m)
			checkNoRow(t, "Batch", batch, err, api.ErrNil)
			batch, err = l.Batch(0, n, m)
			checkNoRow(t, "Batch", batch, err, api.ErrNil)
		}
	}
	checkSize(t, l, 0)
}

func TestALogThatIsNotThere(t *testing.T) { checkNotThere(t, nil) }

func TestALogThatNoCallMade(t *testing.T) {
	checkNotThere(t, &naive.Log{})
	checkNotThere(t, new(naive.Log))
	var l naive.Log
	checkNotThere(t, &l)
}

// R2, R5

// picture: all that a log of some leaves tells of its first n.
func picture(t *testing.T, l *naive.Log, n uint64) []api.Hash {
	t.Helper()
	var all []api.Hash
	add := func(h []api.Hash, err error) {
		if err != nil {
			t.Fatalf("of %d leaves: %v", n, err)
		}
		all = append(append(all, api.Hash{}), h...) // the zero hash stands between two answers
	}
	for size := range n + 1 {
		root, err := l.Root(size)
		add([]api.Hash{root}, err)
		for at := range size {
			add(l.Path(at, size))
			add(l.Proof(at+1, size))
			add(l.Batch(at/2, at+1, size))
			tree, err := l.Tree(stretch(at, size))
			add([]api.Hash{tree}, err)
			data, err := l.Leaf(at)
			add([]api.Hash{sum(data)}, err)
		}
	}
	return all
}

func TestWhatIsRefusedChangesNothing(t *testing.T) {
	l := logOf(t, someLeaves(9)...)
	before := picture(t, l, 9)
	l.Append(strings.Repeat("a", api.MaxLeaf+1))
	l.Leaf(9)
	l.Tree(stretch(3, 2))
	l.Tree(stretch(3, 10))
	l.Root(greatest)
	l.Path(9, 9)
	l.Path(0, 10)
	l.Proof(0, 9)
	l.Proof(1, greatest)
	l.Batch(3, 3, 9)
	l.Batch(0, 1, greatest)
	checkSize(t, l, 9)
	if !slices.Equal(picture(t, l, 9), before) {
		t.Error("the log tells something else behind what was refused")
	}
}

func TestTwoLogs(t *testing.T) {
	one, other := naive.New(), naive.New()
	ones, others := someLeaves(20), []string{"x", "y", "z"}
	appendAll(t, one, ones[:10])
	checkSize(t, other, 0)
	appendAll(t, other, others)
	appendAll(t, one, ones[10:])
	checkSize(t, one, 20)
	checkSize(t, other, 3)
	checkRoot(t, one, 20, wantMTH(ones))
	checkRoot(t, other, 3, wantMTH(others))
	checkNoLeaf(t, other, 3)
	for i, data := range others {
		checkLeaf(t, other, uint64(i), data)
	}
	if !slices.Equal(picture(t, one, 20), picture(t, logOf(t, ones...), 20)) {
		t.Error("a log tells something else beside another one")
	}
}

// R4

// checkOwnMemory: what is written into one answer, and into its spare room, is seen in no other one.
func checkOwnMemory(t *testing.T, what string, call func() ([]api.Hash, error)) {
	t.Helper()
	first, err := call()
	second, _ := call()
	if err != nil {
		t.Fatalf("%s: %v", what, err)
	}
	want := slices.Clone(first)
	mark := sum("mark")
	room := first[:cap(first)]
	for i := range room {
		room[i] = mark
	}
	if slices.Contains(second[:cap(second)], mark) {
		t.Errorf("two answers of %s share memory", what)
	}
	third, err := call()
	checkRow(t, what, third, err, want)
}

func TestAnswersAreNewMemory(t *testing.T) {
	l := logOf(t, someLeaves(30)...)
	before := picture(t, l, 30)
	for _, size := range []uint64{1, 2, 3, 5, 7, 8, 29, 30} {
		for _, at := range []uint64{0, size / 3, size / 2, size - 1} {
			checkOwnMemory(t, "Path", func() ([]api.Hash, error) { return l.Path(at, size) })
			checkOwnMemory(t, "Proof", func() ([]api.Hash, error) { return l.Proof(at+1, size) })
			checkOwnMemory(t, "Batch", func() ([]api.Hash, error) { return l.Batch(at, at+1, size) })
			checkOwnMemory(t, "Batch", func() ([]api.Hash, error) { return l.Batch(at/2, at+1, size) })
		}
	}
	if !slices.Equal(picture(t, l, 30), before) {
		t.Error("what is written into an answer turns the log")
	}
}

func TestAnswersOfTwoCallsShareNothing(t *testing.T) {
	l := logOf(t, someLeaves(30)...)
	path, _ := l.Path(3, 30)
	proof, _ := l.Proof(3, 30)
	batch, _ := l.Batch(3, 4, 30)
	wantProof, wantBatch := slices.Clone(proof), slices.Clone(batch)
	clear(path[:cap(path)])
	if !slices.Equal(proof, wantProof) || !slices.Equal(batch, wantBatch) {
		t.Error("a path shares memory with another answer")
	}
	clear(proof[:cap(proof)])
	if !slices.Equal(batch, wantBatch) {
		t.Error("a proof shares memory with a batch proof")
	}
}

func TestLeavesAreNewMemory(t *testing.T) {
	data := strings.Repeat("leaf", 5)
	l := logOf(t, data)
	first, _ := l.Leaf(0)
	second, _ := l.Leaf(0)
	if unsafe.StringData(first) == unsafe.StringData(data) || unsafe.StringData(first) == unsafe.StringData(second) {
		t.Error("a leaf shares memory with what was appended, or with another answer")
	}
}

// A leaf is kept by its content: who has the bytes under the text may write into them.
func TestAppendKeepsTheContent(t *testing.T) {
	under := []byte("leaf")
	l := logOf(t, unsafe.String(&under[0], len(under)))
	copy(under, "fael")
	checkLeaf(t, l, 0, "leaf")
	checkRoot(t, l, 1, sum("\x00leaf"))
}

// P8.6

// trees: what Tree says of the stretches, one by one.
func trees(t *testing.T, l *naive.Log, stretches []api.Span, err error) []api.Hash {
	t.Helper()
	if err != nil {
		t.Fatal(err)
	}
	var all []api.Hash
	for _, s := range stretches {
		h, err := l.Tree(s)
		if err != nil {
			t.Fatalf("Tree(%v): %v", s, err)
		}
		all = append(all, h)
	}
	return all
}

func TestProofsAreTreesOfShape(t *testing.T) {
	const most = 36
	l := logOf(t, someLeaves(most)...)
	for size := uint64(1); size <= most; size++ {
		for at := range size {
			path, err := shape.Path(at, size)
			checkPath(t, l, at, size, trees(t, l, path, err))
			proof, err := shape.Proof(at+1, size)
			checkProof(t, l, at+1, size, trees(t, l, proof, err))
			for end := at + 1; end <= size; end += 1 + at%3 {
				batch, err := shape.Batch(at, end, size)
				checkBatch(t, l, at, end, size, trees(t, l, batch, err))
			}
		}
	}
}

func TestLaterLeavesChangeNothing(t *testing.T) {
	leaves := someLeaves(40)
	l := naive.New()
	before := make([][]api.Hash, 0, 18)
	for n := range uint64(18) {
		before = append(before, picture(t, l, n))
		appendAll(t, l, leaves[n:n+1])
	}
	for n, want := range before {
		if !slices.Equal(picture(t, l, uint64(n)), want) {
			t.Errorf("of %d leaves the log tells something else behind later ones", n)
		}
	}
	appendAll(t, l, leaves[18:])
	for n, want := range before {
		if !slices.Equal(picture(t, l, uint64(n)), want) {
			t.Errorf("of %d leaves the log tells something else behind many later ones", n)
		}
	}
}

// What was answered is the caller's: later leaves do not write into it.
func TestLaterLeavesChangeNoAnswer(t *testing.T) {
	l := logOf(t, someLeaves(13)...)
	path, _ := l.Path(3, 13)
	proof, _ := l.Proof(3, 13)
	batch, _ := l.Batch(3, 5, 13)
	want := slices.Concat(path, proof, batch)
	appendAll(t, l, someLeaves(50))
	if !slices.Equal(slices.Concat(path, proof, batch), want) {
		t.Error("an answer has changed by later leaves")
	}
}

func TestTheRootIsANode(t *testing.T) {
	leaves := someLeaves(130)
	l := logOf(t, leaves...)
	for size := uint64(2); size <= 130; size++ {
		k, ok := shape.Split(size)
		if !ok {
			t.Fatalf("Split(%d)", size)
		}
		both := trees(t, l, []api.Span{stretch(0, k), stretch(k, size)}, nil)
		checkRoot(t, l, size, hash.Node(both[0], both[1]))
		checkTree(t, l, stretch(0, size), hash.Node(both[0], both[1]))
	}
}

// A log is asked side by side, while nothing is appended: asking writes nothing.
func TestAskedSideBySide(t *testing.T) {
	leaves := someLeaves(33)
	l := logOf(t, leaves...)
	done := make(chan bool)
	for m := range 8 {
		go func() {
			right := true
			for n := m + 1; n <= len(leaves); n++ {
				root, err := l.Root(uint64(n))
				right = right && err == nil && root == wantMTH(leaves[:n])
				path, err := l.Path(uint64(m), uint64(n))
				right = right && err == nil && slices.Equal(path, wantPath(m, leaves[:n]))
				proof, err := l.Proof(uint64(m)+1, uint64(n))
				right = right && err == nil && slices.Equal(proof, wantProof(m+1, leaves[:n]))
			}
			done <- right
		}()
	}
	for range 8 {
		if !<-done {
			t.Error("another answer beside other calls")
		}
	}
}
