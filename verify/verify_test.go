package verify_test

import (
	"crypto/sha256"
	"errors"
	"fmt"
	"math/bits"
	"math/rand"
	"slices"
	"sync"
	"testing"

	"cartulary/api"
	"cartulary/hash"
	"cartulary/naive"
	"cartulary/verify"
)

const (
	mostLeaves uint64 = 1 << 63
	greatest   uint64 = 1<<64 - 1
)

// tableErrors are the errors of the document's table, in its order.
func tableErrors() []error {
	return []error{
		api.ErrNil, api.ErrArg, api.ErrInput, api.ErrLimit, api.ErrRange, api.ErrGone, api.ErrUnavailable, api.ErrDead,
		api.ErrCorrupt, api.ErrProof, api.ErrSpent, api.ErrSigned, api.ErrFork, api.ErrOld, api.ErrStopped, api.ErrScript,
	}
}

// isOnly: got is that error of the table, no other one, and tells no place; none, if none is wanted.
func isOnly(got, want error) bool {
	if want == nil {
		return got == nil
	}
	for _, e := range tableErrors() {
		if errors.Is(got, e) != (e == want) {
			return false
		}
	}
	var f *api.Fault
	return !errors.As(got, &f) || f.At == 0
}

// The words of the chapter and of DOC.md, taken literally, with the library's SHA-256.

func wantNode(a, b api.Hash) api.Hash {
	return api.Hash(sha256.Sum256(slices.Concat([]byte{1}, a[:], b[:])))
}

// greatestBelow: the greatest power of two below n, which is above 1.
func greatestBelow(n uint64) uint64 {
	k := uint64(1)
	for k < n-k { // 2k < n, without wrapping round
		k *= 2
	}
	return k
}

// pathLength: how many hashes the path of the leaf m in n leaves has.
func pathLength(m, n uint64) int {
	if n == 1 {
		return 0
	}
	k := greatestBelow(n)
	if m < k {
		return pathLength(m, k) + 1
	}
	return pathLength(m-k, n-k) + 1
}

// proofLength: how many hashes the proof from m to n leaves has.
func proofLength(m, n uint64) int { return subLength(m, n, true) }

func subLength(m, n uint64, b bool) int {
	if m == n {
		if b {
			return 0
		}
		return 1
	}
	k := greatestBelow(n)
	if m <= k {
		return subLength(m, k, b) + 1
	}
	return subLength(m-k, n-k, false) + 1
}

// pathSays: what a path, which has as many hashes as it should, says that the root is.
func pathSays(m, n uint64, leaf api.Hash, path []api.Hash) api.Hash {
	if n == 1 {
		return leaf
	}
	k := greatestBelow(n)
	last := len(path) - 1
	if m < k {
		return wantNode(pathSays(m, k, leaf, path[:last]), path[last])
	}
	return wantNode(path[last], pathSays(m-k, n-k, leaf, path[:last]))
}

// proofSays: what such a proof says that the old root and the new one are.
func proofSays(m, n uint64, old api.Hash, proof []api.Hash) (x, y api.Hash) {
	return subSays(m, n, old, proof, true)
}

func subSays(m, n uint64, old api.Hash, proof []api.Hash, b bool) (x, y api.Hash) {
	if m == n {
		if b {
			return old, old
		}
		return proof[0], proof[0]
	}
	k := greatestBelow(n)
	last := len(proof) - 1
	h := proof[last]
	if m <= k {
		x, y = subSays(m, k, old, proof[:last], b)
		return x, wantNode(y, h)
	}
	x, y = subSays(m-k, n-k, old, proof[:last], false)
	return wantNode(h, x), wantNode(h, y)
}

// wantRoot: P18.1.
func wantRoot(index, size uint64, leaf api.Hash, path []api.Hash) (api.Hash, error) {
	if size > mostLeaves || index >= size {
		return api.Hash{}, api.ErrRange
	}
	if len(path) != pathLength(index, size) {
		return api.Hash{}, api.ErrProof
	}
	return pathSays(index, size, leaf, path), nil
}

// wantInclusion: P18.2.
func wantInclusion(index, size uint64, leaf api.Hash, path []api.Hash, root api.Hash) error {
	said, err := wantRoot(index, size, leaf, path)
	if err != nil {
		return err
	}
	if said != root {
		return api.ErrProof
	}
	return nil
}

// wantConsistency: P18.3.
func wantConsistency(old, size uint64, before, after api.Hash, proof []api.Hash) error {
	if size > mostLeaves || old == 0 || old > size {
		return api.ErrRange
	}
	if len(proof) != proofLength(old, size) {
		return api.ErrProof
	}
	if x, y := proofSays(old, size, before, proof); x != before || y != after {
		return api.ErrProof
	}
	return nil
}

// Calls, held against what is wanted.

func checkRoot(t *testing.T, index, size uint64, leaf api.Hash, path []api.Hash, want api.Hash, wantErr error) {
	t.Helper()
	if got, err := verify.Root(index, size, leaf, path); got != want || !isOnly(err, wantErr) {
		t.Fatalf("Root(%d, %d, .., %d hashes) = %x, %v; want %x, %v", index, size, len(path), got, err, want, wantErr)
	}
}

func checkInclusion(t *testing.T, index, size uint64, leaf api.Hash, path []api.Hash, root api.Hash, want error) {
	t.Helper()
	if err := verify.Inclusion(index, size, leaf, path, root); !isOnly(err, want) {
		t.Fatalf("Inclusion(%d, %d, .., %d hashes, ..) = %v, want %v", index, size, len(path), err, want)
	}
}

func checkConsistency(t *testing.T, old, size uint64, before, after api.Hash, proof []api.Hash, want error) {
	t.Helper()
	if err := verify.Consistency(old, size, before, after, proof); !isOnly(err, want) {
		t.Fatalf("Consistency(%d, %d, .., %d hashes) = %v, want %v", old, size, len(proof), err, want)
	}
}

// checkPath: Root and Inclusion, by the words of the chapter.
func checkPath(t *testing.T, index, size uint64, leaf api.Hash, path []api.Hash) {
	t.Helper()
	root, err := wantRoot(index, size, leaf, path)
	checkRoot(t, index, size, leaf, path, root, err)
	checkInclusion(t, index, size, leaf, path, root, err) // where there is no root, the zero hash is none either
}

// checkProof: Consistency with the roots that the proof says, which come to be right with the old root that is handed in; with others; with one root in place of the other.
func checkProof(t *testing.T, old, size uint64, before api.Hash, proof []api.Hash) {
	t.Helper()
	x, y := proofSays(old, size, before, proof)
	checkConsistency(t, old, size, x, y, proof, nil)
	checkConsistency(t, old, size, turned(x, 0), y, proof, api.ErrProof)
	checkConsistency(t, old, size, x, turned(y, 255), proof, api.ErrProof)
	checkConsistency(t, old, size, y, x, proof, wantConsistency(old, size, y, x, proof))
	checkConsistency(t, old, size, y, y, proof, wantConsistency(old, size, y, y, proof))
	checkConsistency(t, old, size, x, x, proof, wantConsistency(old, size, x, x, proof))
}

// Hashes and numbers.

func anyHash(rnd *rand.Rand) api.Hash {
	var h api.Hash
	rnd.Read(h[:])
	return h
}

func anyHashes(rnd *rand.Rand, count int) []api.Hash {
	all := make([]api.Hash, count)
	for i := range all {
		all[i] = anyHash(rnd)
	}
	return all
}

// turned: with another bit at one place of the 256.
func turned(h api.Hash, bit int) api.Hash {
	h[bit/8] ^= 1 << (bit % 8)
	return h
}

// withTurned: a list of its own, with a bit of one hash turned.
func withTurned(all []api.Hash, at, bit int) []api.Hash {
	all = slices.Clone(all)
	all[at] = turned(all[at], bit)
	return all
}

// without: a list of its own, without one hash.
func without(all []api.Hash, at int) []api.Hash {
	return slices.Delete(slices.Clone(all), at, at+1)
}

// with: a list of its own, with one hash more.
func with(all []api.Hash, at int, h api.Hash) []api.Hash {
	return slices.Insert(slices.Clone(all), at, h)
}

// edgeSizes: sizes about powers of two, and halfway between them, up to 2^63.
func edgeSizes() []uint64 {
	var all []uint64
	for level := range 64 {
		p := uint64(1) << level
		for _, n := range []uint64{p - 1, p, p + 1, p + 2, p + p/2, p + p/4 - 1} {
			if n >= 1 && n <= mostLeaves {
				all = append(all, n)
			}
		}
	}
	slices.Sort(all)
	return slices.Compact(all)
}

// edgesBelow: numbers from 0 to end - 1 about its edges, about some powers of two, and some in between.
func edgesBelow(end uint64, rnd *rand.Rand) []uint64 {
	all := []uint64{0, 1, 2, end - 1, end - 2, end - 3, end / 2, end/2 - 1, end/2 + 1}
	for range 3 {
		p := uint64(1) << rnd.Intn(bits.Len64(end))
		all = append(all, p-1, p, p+1, end-p, end-p-1, rnd.Uint64()%end, rnd.Uint64()%end>>rnd.Intn(64))
	}
	slices.Sort(all)
	all = slices.Compact(all)
	return slices.DeleteFunc(all, func(n uint64) bool { return n >= end })
}

// sizesThatAreNone: above the greatest one.
func sizesThatAreNone() []uint64 {
	return []uint64{mostLeaves + 1, mostLeaves + 2, mostLeaves + 1<<62, greatest - 1, greatest}
}

func hashesOf(numbers ...byte) []api.Hash {
	var all []api.Hash
	for _, n := range numbers {
		all = append(all, api.Hash{n})
	}
	return all
}

// P18.1 to P18.3: the examples of the chapter

var (
	la = api.Hash{1}
	lb = api.Hash{2}
	lc = api.Hash{3}
	ld = api.Hash{4}
	le = api.Hash{5}
)

func list(all ...api.Hash) []api.Hash { return all }

func TestExamplesOfRoot(t *testing.T) {
	checkRoot(t, 0, 1, la, nil, la, nil)
	checkRoot(t, 0, 1, la, list(lb), api.Hash{}, api.ErrProof)
	checkRoot(t, 1, 1, la, nil, api.Hash{}, api.ErrRange)
	checkRoot(t, 0, 0, la, nil, api.Hash{}, api.ErrRange)
	checkRoot(t, 0, 3, la, list(lb, lc), wantNode(wantNode(la, lb), lc), nil)
	checkRoot(t, 2, 3, lc, list(lb), wantNode(lb, lc), nil)
	checkRoot(t, 4, 5, le, list(la), wantNode(la, le), nil)
	checkRoot(t, 3, 5, ld, list(lc, la, le), wantNode(wantNode(la, wantNode(lc, ld)), le), nil)
}

func TestExamplesOfInclusion(t *testing.T) {
	checkInclusion(t, 2, 3, lc, list(lb), wantNode(lb, lc), nil)
	checkInclusion(t, 2, 3, lc, list(lb), la, api.ErrProof)
}

func TestExamplesOfConsistency(t *testing.T) {
	checkConsistency(t, 3, 3, la, la, nil, nil)
	checkConsistency(t, 3, 3, la, lb, nil, api.ErrProof)
	checkConsistency(t, 3, 3, la, la, list(lc), api.ErrProof)
	checkConsistency(t, 0, 3, la, la, nil, api.ErrRange)
	checkConsistency(t, 4, 3, la, la, nil, api.ErrRange)
	checkConsistency(t, 2, 3, la, wantNode(la, lc), list(lc), nil)
	checkConsistency(t, 1, 2, la, wantNode(la, lb), list(lb), nil)
	checkConsistency(t, 3, 5, wantNode(lb, la), wantNode(wantNode(lb, wantNode(la, lc)), ld), list(la, lc, lb, ld), nil)
}

func TestExamplesOfTheGreatestSize(t *testing.T) {
	path := make([]api.Hash, 63)
	want := la
	for range path {
		want = wantNode(want, api.Hash{})
	}
	checkRoot(t, 0, mostLeaves, la, path, want, nil)
	checkRoot(t, 0, mostLeaves+1, la, path, api.Hash{}, api.ErrRange)
}

// DOC.md's third and fourth example: three and five leaves.
func TestExamplesOfTheDocument(t *testing.T) {
	var l [5]api.Hash
	for i := range l {
		l[i] = hash.Leaf(string(rune('a' + i)))
	}
	two := wantNode(l[0], l[1])
	three := wantNode(two, l[2])
	four := wantNode(two, wantNode(l[2], l[3]))
	five := wantNode(four, l[4])
	checkInclusion(t, 0, 3, l[0], list(l[1], l[2]), three, nil)
	checkInclusion(t, 2, 3, l[2], list(two), three, nil)
	checkInclusion(t, 4, 5, l[4], list(four), five, nil)
	checkConsistency(t, 2, 3, two, three, list(l[2]), nil)
	checkConsistency(t, 1, 3, l[0], three, list(l[1], l[2]), nil)
	checkConsistency(t, 3, 3, three, three, nil, nil)
	checkConsistency(t, 3, 5, three, five, list(l[2], l[3], two, l[4]), nil)
	checkConsistency(t, 4, 5, four, five, list(l[4]), nil)
}

// P18.1: Root

// The words themselves, held against trees whose roots are written out.
func TestTheWordsOfTheChapter(t *testing.T) {
	for n, want := range map[uint64]uint64{2: 1, 3: 2, 4: 2, 5: 4, 8: 4, 9: 8, mostLeaves: 1 << 62, mostLeaves - 1: 1 << 62, 1<<62 + 1: 1 << 62} {
		if k := greatestBelow(n); k != want {
			t.Errorf("k of %d is %d, want %d", n, k, want)
		}
	}
	if got := pathSays(5, 7, ld, list(la, lb, lc)); got != wantNode(lc, wantNode(wantNode(la, ld), lb)) {
		t.Error("the path of 5 in 7")
	}
	if x, y := proofSays(6, 7, le, list(la, lb, lc)); x != wantNode(lc, la) || y != wantNode(lc, wantNode(la, lb)) {
		t.Error("the proof from 6 to 7")
	}
	if x, y := proofSays(4, 7, le, list(la)); x != le || y != wantNode(le, la) {
		t.Error("the proof from 4 to 7")
	}
}

func TestRootInSmallSizes(t *testing.T) {
	rnd := rand.New(rand.NewSource(1))
	for size := uint64(1); size <= 300; size++ {
		for index := range size {
			path := anyHashes(rnd, pathLength(index, size)+1)
			leaf, last := anyHash(rnd), len(path)-1
			checkPath(t, index, size, leaf, path[:last])
			checkPath(t, index, size, leaf, path)
			if last > 0 {
				checkPath(t, index, size, leaf, path[:last-1])
			}
		}
	}
}

func TestRootOfEachCountOfHashes(t *testing.T) {
	path := anyHashes(rand.New(rand.NewSource(2)), 70)
	for size := uint64(0); size <= 40; size++ {
		for index := range size + 2 {
			for count := range 70 {
				checkPath(t, index, size, lb, path[:count])
			}
		}
	}
}

func TestRootAboutPowersOfTwo(t *testing.T) {
	rnd := rand.New(rand.NewSource(3))
	for _, size := range edgeSizes() {
		for _, index := range edgesBelow(size, rnd) {
			count := pathLength(index, size)
			path := anyHashes(rnd, count+1)
			leaf := anyHash(rnd)
			checkPath(t, index, size, leaf, path[:count])
			for _, n := range []int{0, count - 1, count + 1} {
				if n >= 0 && n != count {
					checkRoot(t, index, size, leaf, path[:n], api.Hash{}, api.ErrProof)
				}
			}
		}
	}
}

// In a whole tree each bit of the index says of a level at which side the hash there stands.
func TestRootInWholeTrees(t *testing.T) {
	rnd := rand.New(rand.NewSource(4))
	for level := range 64 {
		size := uint64(1) << level
		for _, index := range edgesBelow(size, rnd) {
			leaf, path := anyHash(rnd), anyHashes(rnd, level)
			want := leaf
			for at, h := range path {
				if index&(1<<at) == 0 {
					want = wantNode(want, h)
				} else {
					want = wantNode(h, want)
				}
			}
			checkRoot(t, index, size, leaf, path, want, nil)
		}
	}
}

// The last leaf of a size with few ones stands beside few hashes, and goes up as it is in between.
func TestRootOfTheLastLeaf(t *testing.T) {
	for high := 1; high < 63; high++ {
		for low := range high {
			size := uint64(1)<<high + 1<<low + 1
			checkRoot(t, size-1, size, lc, list(la, lb), wantNode(lb, wantNode(la, lc)), nil)
			checkRoot(t, size-1, size, lc, list(la), api.Hash{}, api.ErrProof)
			checkRoot(t, size-1, size, lc, list(la, lb, ld), api.Hash{}, api.ErrProof)
		}
		size := uint64(1)<<high + 1
		checkRoot(t, size-1, size, la, list(lb), wantNode(lb, la), nil)
		checkRoot(t, size-1, size, la, nil, api.Hash{}, api.ErrProof)
		checkRoot(t, size-1, size, la, list(lb, lc), api.Hash{}, api.ErrProof)
	}
}

func TestRootOfOneLeaf(t *testing.T) {
	for _, leaf := range []api.Hash{{}, la, hash.Empty(), hash.Leaf("a")} {
		checkRoot(t, 0, 1, leaf, nil, leaf, nil)
		checkRoot(t, 0, 1, leaf, []api.Hash{}, leaf, nil)
		checkRoot(t, 0, 1, leaf, list(leaf), api.Hash{}, api.ErrProof)
		checkRoot(t, 0, 1, leaf, make([]api.Hash, 63), api.Hash{}, api.ErrProof)
	}
}

// Hashes may be alike, and zero: nothing but their number and their sides tells.
func TestRootOfHashesThatAreAlike(t *testing.T) {
	for size := uint64(1); size <= 70; size++ {
		for index := range size {
			count := pathLength(index, size)
			checkPath(t, index, size, api.Hash{}, make([]api.Hash, count))
			checkPath(t, index, size, la, slices.Repeat(list(la), count))
			checkPath(t, index, size, la, slices.Repeat(list(la), count+1))
		}
	}
}

func TestRootOfFarTooManyHashes(t *testing.T) {
	rnd := rand.New(rand.NewSource(5))
	path := anyHashes(rnd, 1<<20)
	for _, count := range []int{63, 64, 65, 100, 127, 128, 255, 256, 1000, 65535, 65536, 1<<20 - 1, 1 << 20} {
		for _, size := range []uint64{1, 2, 3, 5, 300, 1<<62 - 1, 1<<63 - 1, 1 << 63} {
			for _, index := range []uint64{0, size / 2, size - 1} {
				if count != pathLength(index, size) {
					checkRoot(t, index, size, la, path[:count], api.Hash{}, api.ErrProof)
				}
			}
		}
	}
}

func TestRootOfLeavesThatAreNot(t *testing.T) {
	counts := []int{0, 1, 2, 3, 62, 63, 64, 65, 100}
	path := make([]api.Hash, 100)
	refused := func(index, size uint64) {
		t.Helper()
		for _, count := range counts {
			checkRoot(t, index, size, la, path[:count], api.Hash{}, api.ErrRange)
			checkInclusion(t, index, size, la, path[:count], la, api.ErrRange)
			checkInclusion(t, index, size, api.Hash{}, path[:count], api.Hash{}, api.ErrRange)
		}
	}
	for _, index := range []uint64{0, 1, 2, mostLeaves - 1, mostLeaves, greatest} {
		refused(index, 0)
		for _, size := range sizesThatAreNone() {
			refused(index, size)
			refused(size-1, size)
			refused(size, size)
		}
	}
	for _, size := range append(edgeSizes(), mostLeaves) {
		for _, index := range []uint64{size, size + 1, size + size/2, mostLeaves, mostLeaves + 1, greatest - 1, greatest} {
			if index >= size {
				refused(index, size)
			}
		}
	}
}

// P18.2: Inclusion

func TestInclusionOfOtherRoots(t *testing.T) {
	rnd := rand.New(rand.NewSource(6))
	for _, size := range []uint64{1, 2, 3, 4, 5, 6, 7, 8, 9, 100, 255, 256, 257, 1<<40 + 5, mostLeaves - 1, mostLeaves} {
		for _, index := range edgesBelow(size, rnd) {
			leaf, path := anyHash(rnd), anyHashes(rnd, pathLength(index, size))
			root := pathSays(index, size, leaf, path)
			checkInclusion(t, index, size, leaf, path, root, nil)
			others := []api.Hash{{}, hash.Empty(), wantNode(root, root), turned(root, rnd.Intn(256)), anyHash(rnd)}
			if size > 1 {
				others = append(others, leaf, path[0], path[len(path)-1], wantNode(leaf, root))
			}
			for _, other := range others {
				checkInclusion(t, index, size, leaf, path, other, api.ErrProof)
			}
		}
	}
}

// A root is held against the other one as a whole: each bit counts.
func TestInclusionOfARootWithABitTurned(t *testing.T) {
	root := wantNode(lb, lc)
	for bit := range 256 {
		checkInclusion(t, 2, 3, lc, list(lb), turned(root, bit), api.ErrProof)
		checkInclusion(t, 0, 1, turned(la, bit), nil, la, api.ErrProof)
		checkInclusion(t, 0, 1, turned(la, bit), nil, turned(la, bit), nil)
	}
}

// With an error Root answers the zero hash; a root that is the zero hash is not that one.
func TestInclusionOfTheZeroRoot(t *testing.T) {
	for _, path := range [][]api.Hash{nil, make([]api.Hash, 1), make([]api.Hash, 3), make([]api.Hash, 64)} {
		checkInclusion(t, 0, 3, api.Hash{}, path, api.Hash{}, api.ErrProof)
		checkInclusion(t, 3, 3, api.Hash{}, path, api.Hash{}, api.ErrRange)
		checkInclusion(t, 0, 0, api.Hash{}, path, api.Hash{}, api.ErrRange)
		checkInclusion(t, 0, mostLeaves+1, api.Hash{}, path, api.Hash{}, api.ErrRange)
	}
	checkInclusion(t, 0, 1, api.Hash{}, nil, api.Hash{}, nil) // here it is: the leaf's hash is zero
}

// What a path of another number of hashes comes to is no root of this size.
func TestInclusionOfAPathCutShort(t *testing.T) {
	path := hashesOf(1, 2, 3, 4)
	for count := range 5 {
		root := le
		for _, h := range path[:count] {
			root = wantNode(root, h)
		}
		for size := uint64(1); size <= 20; size++ {
			want := api.ErrProof
			if pathLength(0, size) == count {
				want = nil
			}
			checkInclusion(t, 0, size, le, path[:count], root, want)
		}
	}
}

// P18.3: Consistency

func TestConsistencyInSmallSizes(t *testing.T) {
	rnd := rand.New(rand.NewSource(7))
	for size := uint64(1); size <= 220; size++ {
		for old := uint64(1); old <= size; old++ {
			checkProof(t, old, size, anyHash(rnd), anyHashes(rnd, proofLength(old, size)))
		}
	}
}

func TestConsistencyAboutPowersOfTwo(t *testing.T) {
	rnd := rand.New(rand.NewSource(8))
	for _, size := range edgeSizes() {
		for _, below := range edgesBelow(size, rnd) {
			old := below + 1
			checkProof(t, old, size, anyHash(rnd), anyHashes(rnd, proofLength(old, size)))
		}
	}
}

// Whatever the hashes are, and however many, before and after are what those say that are enough, if any are.
func TestConsistencyOfEachCountOfHashes(t *testing.T) {
	rnd := rand.New(rand.NewSource(9))
	for size := uint64(0); size <= 36; size++ {
		for old := range size + 3 {
			proof := anyHashes(rnd, 70)
			before, after := anyHash(rnd), anyHash(rnd)
			if old > 0 && old <= size {
				before, after = proofSays(old, size, before, proof[:proofLength(old, size)])
			}
			for count := range proof {
				checkConsistency(t, old, size, before, after, proof[:count], wantConsistency(old, size, before, after, proof[:count]))
			}
		}
	}
}

// One hash left out or put in, wherever: the count is wrong, whatever the roots.
func TestConsistencyOfAHashTooFewOrTooMany(t *testing.T) {
	rnd := rand.New(rand.NewSource(10))
	for _, size := range edgeSizes() {
		for _, below := range edgesBelow(size, rnd)[:3] {
			old := below + 1
			proof := anyHashes(rnd, proofLength(old, size))
			before, after := proofSays(old, size, anyHash(rnd), proof)
			last := len(proof) - 1
			for _, at := range []int{0, 1, last / 2, last} {
				if at >= 0 && at <= last {
					checkConsistency(t, old, size, before, after, without(proof, at), api.ErrProof)
				}
			}
			for _, at := range []int{0, len(proof) / 2, len(proof)} {
				checkConsistency(t, old, size, before, after, with(proof, at, before), api.ErrProof)
				checkConsistency(t, old, size, before, after, with(proof, at, after), api.ErrProof)
			}
		}
	}
}

func TestConsistencyOfFarTooManyHashes(t *testing.T) {
	proof := anyHashes(rand.New(rand.NewSource(11)), 1<<20)
	for _, count := range []int{65, 66, 100, 127, 128, 256, 1000, 65536, 1 << 20} {
		for _, size := range []uint64{1, 2, 3, 4, 7, 300, 1<<62 + 1, 1<<63 - 1, 1 << 63} {
			for _, old := range []uint64{1, (size + 1) / 2, size} {
				checkConsistency(t, old, size, la, la, proof[:count], api.ErrProof)
			}
		}
	}
}

// From a size to itself there is no hash, whether the size is a power of two or not.
func TestConsistencyFromASizeToItself(t *testing.T) {
	rnd := rand.New(rand.NewSource(12))
	sizes := edgeSizes()
	for n := uint64(1); n <= 300; n++ {
		sizes = append(sizes, n)
	}
	for _, n := range sizes {
		root, other := anyHash(rnd), anyHash(rnd)
		for _, none := range [][]api.Hash{nil, {}} {
			checkConsistency(t, n, n, root, root, none, nil)
			checkConsistency(t, n, n, api.Hash{}, api.Hash{}, none, nil)
			checkConsistency(t, n, n, root, other, none, api.ErrProof)
			checkConsistency(t, n, n, root, turned(root, rnd.Intn(256)), none, api.ErrProof)
			checkConsistency(t, n, n, root, api.Hash{}, none, api.ErrProof)
			checkConsistency(t, n, n, api.Hash{}, root, none, api.ErrProof)
		}
		for _, some := range [][]api.Hash{list(root), list(root, root), list(other), make([]api.Hash, 63), make([]api.Hash, 64)} {
			checkConsistency(t, n, n, root, root, some, api.ErrProof)
			checkConsistency(t, n, n, root, wantNode(root, some[0]), some, api.ErrProof)
			checkConsistency(t, n, n, root, wantNode(some[0], root), some, api.ErrProof)
			checkConsistency(t, n, n, root, some[0], some, api.ErrProof)
		}
	}
}

// The old root of a power of two is not among the hashes: it is handed in, and what is above it hangs on it.
func TestConsistencyFromAPowerOfTwo(t *testing.T) {
	rnd := rand.New(rand.NewSource(13))
	for level := range 63 {
		old := uint64(1) << level
		for _, size := range []uint64{old + 1, old + old/2, 2*old - 1, 2 * old, 2*old + 1, mostLeaves - 1, mostLeaves} {
			if size <= old || size > mostLeaves {
				continue
			}
			proof := anyHashes(rnd, proofLength(old, size))
			before := anyHash(rnd)
			after := before
			for _, h := range proof {
				after = wantNode(after, h)
			}
			checkConsistency(t, old, size, before, after, proof, nil)
			checkConsistency(t, old, size, before, after, with(proof, 0, before), api.ErrProof)
			checkConsistency(t, old, size, turned(before, 77), after, proof, api.ErrProof)
			checkConsistency(t, old, size, before, before, proof, api.ErrProof)
			checkConsistency(t, old, size, after, after, proof, api.ErrProof)
			checkConsistency(t, old, size, before, after, nil, api.ErrProof)
		}
	}
}

// Where the old size is no power of two, its first hash is not to be taken for the old root.
func TestConsistencyOfTheFirstHash(t *testing.T) {
	for _, old := range []uint64{3, 5, 6, 7, 9, 12, 1<<40 + 1, mostLeaves - 1} {
		proof := hashesOf(slices.Repeat([]byte{7}, proofLength(old, mostLeaves))...)
		x, y := proofSays(old, mostLeaves, api.Hash{}, proof)
		checkConsistency(t, old, mostLeaves, x, y, proof, nil)
		checkConsistency(t, old, mostLeaves, proof[0], y, proof, api.ErrProof)
		checkConsistency(t, old, mostLeaves, x, y, proof[1:], api.ErrProof)
		checkConsistency(t, old, mostLeaves, x, y, nil, api.ErrProof)
	}
}

// Both roots are held as a whole: each bit of each of them counts.
func TestConsistencyOfRootsWithABitTurned(t *testing.T) {
	proof := list(la, lc, lb, ld)
	before, after := wantNode(lb, la), wantNode(wantNode(lb, wantNode(la, lc)), ld)
	for bit := range 256 {
		checkConsistency(t, 3, 5, turned(before, bit), after, proof, api.ErrProof)
		checkConsistency(t, 3, 5, before, turned(after, bit), proof, api.ErrProof)
		checkConsistency(t, 3, 5, turned(before, bit), turned(after, bit), proof, api.ErrProof)
		checkConsistency(t, 4, 4, turned(la, bit), la, nil, api.ErrProof)
		checkConsistency(t, 4, 4, turned(la, bit), turned(la, bit), nil, nil)
	}
}

func TestConsistencyOfHashesThatAreAlike(t *testing.T) {
	for size := uint64(1); size <= 60; size++ {
		for old := uint64(1); old <= size; old++ {
			count := proofLength(old, size)
			for _, h := range []api.Hash{{}, la} {
				x, y := proofSays(old, size, h, slices.Repeat(list(h), count))
				checkConsistency(t, old, size, x, y, slices.Repeat(list(h), count), nil)
				checkConsistency(t, old, size, x, y, slices.Repeat(list(h), count+1), api.ErrProof)
				if count > 0 {
					checkConsistency(t, old, size, x, y, slices.Repeat(list(h), count-1), api.ErrProof)
				}
			}
		}
	}
}

// ErrRange goes ahead of ErrProof: however many hashes there are, and whatever the roots.
func TestConsistencyOfSizesThatAreNot(t *testing.T) {
	refused := func(old, size uint64) {
		t.Helper()
		proof := make([]api.Hash, 100)
		for _, count := range []int{0, 1, 2, 3, 62, 63, 64, 65, 100} {
			checkConsistency(t, old, size, la, la, proof[:count], api.ErrRange)
			checkConsistency(t, old, size, la, lb, proof[:count], api.ErrRange)
			checkConsistency(t, old, size, api.Hash{}, api.Hash{}, proof[:count], api.ErrRange)
		}
	}
	for _, size := range append(edgeSizes(), 0) {
		refused(0, size)
		for _, old := range []uint64{size + 1, size + 2, size + size/2, mostLeaves, mostLeaves + 1, greatest - 1, greatest} {
			if old > size {
				refused(old, size)
			}
		}
	}
	for _, size := range sizesThatAreNone() {
		for _, old := range []uint64{0, 1, 2, 3, mostLeaves - 1, mostLeaves, mostLeaves + 1, size - 1, size, size / 2, greatest} {
			refused(old, size)
		}
	}
}

// R1, R2: any numbers, any hashes, any count of them

// anyNumber: small ones, such about powers of two, and any.
func anyNumber(rnd *rand.Rand) uint64 {
	switch rnd.Intn(4) {
	case 0:
		return uint64(rnd.Intn(20))
	case 1:
		return uint64(1)<<rnd.Intn(64) + uint64(rnd.Intn(5)) - 2
	case 2:
		return rnd.Uint64() >> rnd.Intn(64)
	}
	return mostLeaves + uint64(rnd.Intn(5)) - 2
}

// nearCount: often the count that is right, else one about it, or any.
func nearCount(rnd *rand.Rand, right int) int {
	switch rnd.Intn(4) {
	case 0:
		return max(0, right+rnd.Intn(5)-2)
	case 1:
		return rnd.Intn(80)
	}
	return right
}

func TestPathsOfAnything(t *testing.T) {
	rnd := rand.New(rand.NewSource(14))
	for range 36000 {
		index, size := anyNumber(rnd), anyNumber(rnd)
		if rnd.Intn(2) == 0 && size > 0 {
			index %= size
		}
		count := rnd.Intn(70)
		if size <= mostLeaves && index < size {
			count = nearCount(rnd, pathLength(index, size))
		}
		checkPath(t, index, size, anyHash(rnd), anyHashes(rnd, count))
	}
}

func TestProofsOfAnything(t *testing.T) {
	rnd := rand.New(rand.NewSource(15))
	verified := 0
	for range 36000 {
		old, size := anyNumber(rnd), anyNumber(rnd)
		if rnd.Intn(2) == 0 && size > 0 {
			old = old%size + uint64(rnd.Intn(2))
		}
		before, after, proof := anyHash(rnd), anyHash(rnd), anyHashes(rnd, rnd.Intn(70))
		if size <= mostLeaves && old > 0 && old <= size {
			right := proofLength(old, size)
			proof = anyHashes(rnd, nearCount(rnd, right))
			if len(proof) == right && rnd.Intn(4) > 0 {
				before, after = proofSays(old, size, before, proof)
			}
		}
		want := wantConsistency(old, size, before, after, proof)
		if want == nil {
			verified++
		}
		checkConsistency(t, old, size, before, after, proof, want)
	}
	if verified < 3000 {
		t.Errorf("just %d proofs verified", verified)
	}
}

// P18.4: what chapter 8 answers verifies, and nothing else does

// logOf: so many leaves, no two alike.
func logOf(t *testing.T, count int) *naive.Log {
	t.Helper()
	l := naive.New()
	for i := range count {
		if _, err := l.Append(leafText(uint64(i))); err != nil {
			t.Fatal(err)
		}
	}
	return l
}

func leafText(i uint64) string { return fmt.Sprintf("leaf %d", i) }

func leafHash(i uint64) api.Hash { return hash.Leaf(leafText(i)) }

// rootsOf: of each size up to that of the log.
func rootsOf(t *testing.T, l *naive.Log) []api.Hash {
	t.Helper()
	var all []api.Hash
	for size := range l.Size() + 1 {
		root, err := l.Root(size)
		if err != nil {
			t.Fatal(err)
		}
		all = append(all, root)
	}
	return all
}

func pathOf(t *testing.T, l *naive.Log, index, size uint64) []api.Hash {
	t.Helper()
	path, err := l.Path(index, size)
	if err != nil {
		t.Fatal(err)
	}
	return path
}

func proofOf(t *testing.T, l *naive.Log, old, size uint64) []api.Hash {
	t.Helper()
	proof, err := l.Proof(old, size)
	if err != nil {
		t.Fatal(err)
	}
	return proof
}

func TestEachPathOfALogVerifies(t *testing.T) {
	const most = 150
	l := logOf(t, most)
	roots := rootsOf(t, l)
	for size := uint64(1); size <= most; size++ {
		for index := range size {
			path := pathOf(t, l, index, size)
			checkRoot(t, index, size, leafHash(index), path, roots[size], nil)
			checkInclusion(t, index, size, leafHash(index), path, roots[size], nil)
			checkInclusion(t, index, size, leafHash(index), path, roots[size-1], api.ErrProof)
			checkInclusion(t, index, size, leafHash((index+1)%most), path, roots[size], api.ErrProof)
		}
	}
}

func TestEachProofOfALogVerifies(t *testing.T) {
	const most = 150
	l := logOf(t, most)
	roots := rootsOf(t, l)
	for size := uint64(1); size <= most; size++ {
		for old := uint64(1); old <= size; old++ {
			proof := proofOf(t, l, old, size)
			checkConsistency(t, old, size, roots[old], roots[size], proof, nil)
			checkConsistency(t, old, size, roots[old-1], roots[size], proof, api.ErrProof)
			checkConsistency(t, old, size, roots[old], roots[size-1], proof, api.ErrProof)
		}
	}
}

func TestSomeOfAGreaterLogVerify(t *testing.T) {
	const most = 1500
	l := logOf(t, most)
	rnd := rand.New(rand.NewSource(16))
	for range 150 {
		size := uint64(rnd.Intn(most) + 1)
		root, _ := l.Root(size)
		index, old := rnd.Uint64()%size, rnd.Uint64()%size+1
		before, _ := l.Root(old)
		checkInclusion(t, index, size, leafHash(index), pathOf(t, l, index, size), root, nil)
		checkConsistency(t, old, size, before, root, proofOf(t, l, old, size), nil)
	}
}

// No other leaf's hash, no other size's root, and the path at no other leaf's number.
func TestAPathIsOfOneLeaf(t *testing.T) {
	const most = 40
	l := logOf(t, most)
	roots := rootsOf(t, l)
	for size := uint64(1); size <= most; size++ {
		for index := range size {
			path := pathOf(t, l, index, size)
			for other := range uint64(most) {
				if other != index {
					checkInclusion(t, index, size, leafHash(other), path, roots[size], api.ErrProof)
				}
				if other != index && other < size {
					checkInclusion(t, other, size, leafHash(index), path, roots[size], api.ErrProof)
				}
				if other != size {
					checkInclusion(t, index, size, leafHash(index), path, roots[other], api.ErrProof)
				}
			}
		}
	}
}

func TestAProofIsOfTwoRoots(t *testing.T) {
	const most = 32
	l := logOf(t, most)
	roots := rootsOf(t, l)
	for size := uint64(1); size <= most; size++ {
		for old := uint64(1); old <= size; old++ {
			proof := proofOf(t, l, old, size)
			for other := range uint64(most) {
				if other != old {
					checkConsistency(t, old, size, roots[other], roots[size], proof, api.ErrProof)
				}
				if other != size {
					checkConsistency(t, old, size, roots[old], roots[other], proof, api.ErrProof)
				}
			}
		}
	}
}

// changed: lists that are not as all is: with a hash turned, moved, left out, put in, told twice, put in place of another one.
func changed(all []api.Hash, rnd *rand.Rand) [][]api.Hash {
	var lists [][]api.Hash
	for at := range all {
		lists = append(lists, without(all, at), withTurned(all, at, rnd.Intn(256)), withTurned(all, at, 0), withTurned(all, at, 255), with(all, at, all[at]))
		for other := range at {
			moved := with(without(all, at), other, all[at])
			swapped := slices.Clone(all)
			swapped[at], swapped[other] = swapped[other], swapped[at]
			replaced := slices.Clone(all)
			replaced[at] = replaced[other]
			lists = append(lists, moved, swapped, replaced)
		}
	}
	lists = append(lists, with(all, 0, anyHash(rnd)), with(all, len(all), anyHash(rnd)), with(all, len(all), api.Hash{}))
	if len(all) > 0 {
		lists = append(lists, nil, make([]api.Hash, len(all)))
	}
	return lists
}

// Of one leaf's number and size and one root no second path verifies: there would be two pairs of hashes with one node.
func TestNoOtherPathVerifies(t *testing.T) {
	const most = 70
	l := logOf(t, most)
	roots := rootsOf(t, l)
	rnd := rand.New(rand.NewSource(17))
	for size := uint64(1); size <= most; size++ {
		for index := range size {
			for _, other := range changed(pathOf(t, l, index, size), rnd) {
				checkInclusion(t, index, size, leafHash(index), other, roots[size], api.ErrProof)
			}
		}
	}
}

// Of two sizes and one new root no second proof verifies, with whatever old root it says.
func TestNoOtherProofVerifies(t *testing.T) {
	const most = 48
	l := logOf(t, most)
	roots := rootsOf(t, l)
	rnd := rand.New(rand.NewSource(18))
	for size := uint64(1); size <= most; size++ {
		for old := uint64(1); old <= size; old++ {
			for _, other := range changed(proofOf(t, l, old, size), rnd) {
				checkConsistency(t, old, size, roots[old], roots[size], other, api.ErrProof)
				if len(other) == proofLength(old, size) {
					said, _ := proofSays(old, size, roots[old], other)
					checkConsistency(t, old, size, said, roots[size], other, api.ErrProof)
				}
			}
		}
	}
}

// Each bit of each hash, of the leaf's too, is in the root.
func TestEachBitOfAPathCounts(t *testing.T) {
	const size = 23
	l := logOf(t, size)
	root, _ := l.Root(size)
	for _, index := range []uint64{0, 9, 15, 16, 19, 20, 21, 22} {
		path := pathOf(t, l, index, size)
		for bit := range 256 {
			checkInclusion(t, index, size, turned(leafHash(index), bit), path, root, api.ErrProof)
			for at := range path {
				checkInclusion(t, index, size, leafHash(index), withTurned(path, at, bit), root, api.ErrProof)
			}
		}
	}
}

func TestEachBitOfAProofCounts(t *testing.T) {
	const size = 23
	l := logOf(t, size)
	roots := rootsOf(t, l)
	for _, old := range []uint64{1, 3, 8, 11, 16, 18, 21, 22} {
		proof := proofOf(t, l, old, size)
		for bit := range 256 {
			checkConsistency(t, old, size, turned(roots[old], bit), roots[size], proof, api.ErrProof)
			for at := range proof {
				checkConsistency(t, old, size, roots[old], roots[size], withTurned(proof, at, bit), api.ErrProof)
			}
		}
	}
}

// A log that begins otherwise than the old one did is no later one of it, however its proof looks.
func TestALogThatIsAnother(t *testing.T) {
	const most = 33
	l := logOf(t, most)
	roots := rootsOf(t, l)
	for at := range uint64(most) {
		other := naive.New()
		for i := range uint64(most) {
			text := leafText(i)
			if i == at {
				text = "another leaf"
			}
			if _, err := other.Append(text); err != nil {
				t.Fatal(err)
			}
		}
		later, _ := other.Root(most)
		for old := uint64(1); old <= most; old++ {
			want := api.ErrProof
			if at >= old { // the old leaves are the same
				want = nil
			}
			checkConsistency(t, old, most, roots[old], later, proofOf(t, other, old, most), want)
		}
	}
}

// R4: what is handed in

// roomy: the hashes in a list with spare room, and that whole room.
func roomy(all []api.Hash) (cut, room []api.Hash) {
	room = append(slices.Clone(all), hashesOf(0xa1, 0xa2, 0xa3, 0xa4)...)
	return room[:len(all)], room
}

func TestWhatIsHandedInStays(t *testing.T) {
	rnd := rand.New(rand.NewSource(19))
	for size := uint64(1); size <= 64; size++ {
		for _, old := range edgesBelow(size+1, rnd) {
			for _, count := range []int{0, 1, 3, 6, 7, 64, 200} {
				path, room := roomy(anyHashes(rnd, count))
				was := slices.Clone(room)
				root, _ := verify.Root(old, size, la, path)
				verify.Inclusion(old, size, la, path, root)
				verify.Consistency(old, size, la, lb, path)
				if !slices.Equal(room, was) {
					t.Fatalf("%d, %d: what was handed in, or its spare room, is turned", old, size)
				}
			}
			if old == 0 {
				continue
			}
			proof, room := roomy(anyHashes(rnd, proofLength(old, size)))
			was := slices.Clone(room)
			before, after := proofSays(old, size, la, proof)
			checkConsistency(t, old, size, before, after, proof, nil)
			if !slices.Equal(room, was) {
				t.Fatalf("%d, %d: a proof that verifies, or its spare room, is turned", old, size)
			}
		}
	}
}

// What was handed in is not kept: the same list with other hashes is another one.
func TestNothingIsKept(t *testing.T) {
	path := list(lb, lc)
	for range 3 {
		checkRoot(t, 0, 3, la, path, wantNode(wantNode(la, path[0]), path[1]), nil)
		path[0], path[1] = path[1], turned(path[0], 3)
	}
	proof := list(la, lc, lb, ld)
	for range 3 {
		checkProof(t, 3, 5, le, proof)
		proof[0], proof[2] = proof[2], turned(proof[0], 9)
	}
}

func TestEmptyAndNilAreTheSame(t *testing.T) {
	for size := uint64(0); size <= 20; size++ {
		for index := range size + 2 {
			for _, none := range [][]api.Hash{nil, {}, make([]api.Hash, 0, 5), hashesOf(1, 2)[:0]} {
				checkPath(t, index, size, la, none)
				checkConsistency(t, index, size, la, la, none, wantConsistency(index, size, la, la, none))
			}
		}
	}
}

// R5: side by side

func TestAskedSideBySide(t *testing.T) {
	const size = 50
	l := logOf(t, size)
	roots := rootsOf(t, l)
	var paths, proofs [][]api.Hash
	for i := range uint64(size) {
		paths = append(paths, pathOf(t, l, i, size))
		proofs = append(proofs, proofOf(t, l, i+1, size))
	}
	var all sync.WaitGroup
	for worker := range 8 {
		all.Go(func() {
			for step := range size {
				i := uint64((step*(2*worker+1) + worker) % size)
				if err := verify.Inclusion(i, size, leafHash(i), paths[i], roots[size]); err != nil {
					t.Errorf("Inclusion of %d: %v", i, err)
				}
				if err := verify.Consistency(i+1, size, roots[i+1], roots[size], proofs[i]); err != nil {
					t.Errorf("Consistency from %d: %v", i+1, err)
				}
				if err := verify.Inclusion(i, size, leafHash(i+1), paths[i], roots[size]); !isOnly(err, api.ErrProof) {
					t.Errorf("Inclusion of another leaf at %d: %v", i, err)
				}
			}
		})
	}
	all.Wait()
}
