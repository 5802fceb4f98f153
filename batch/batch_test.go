package batch_test

import (
	"cmp"
	"crypto/sha256"
	"errors"
	"fmt"
	"math/bits"
	"math/rand"
	"slices"
	"sync"
	"testing"

	"cartulary/api"
	"cartulary/batch"
	"cartulary/hash"
	"cartulary/naive"
	"cartulary/shape"
	"cartulary/verify"
)

const (
	mostLeaves uint64 = 1 << 63
	greatest   uint64 = 1<<64 - 1
)

// tableErrors are the errors of the document's table, in its order.
func tableErrors() []error {
	return []error{
		api.ErrNil, api.ErrArg, api.ErrInput, api.ErrLimit, api.ErrRange, api.ErrGone, api.ErrUnavailable, api.ErrDead,
		api.ErrCorrupt, api.ErrProof, api.ErrSpent, api.ErrSigned, api.ErrFork, api.ErrOld, api.ErrStopped, api.ErrScript,
	}
}

// isOnly: got is that error of the table, no other one, and tells no place; none, if none is wanted.
func isOnly(got, want error) bool {
	if want == nil {
		return got == nil
	}
	for _, e := range tableErrors() {
		if errors.Is(got, e) != (e == want) {
			return false
		}
	}
	var f *api.Fault
	return !errors.As(got, &f) || f.At == 0
}

// The words of the chapter and of DOC.md, taken literally, with the library's SHA-256.

func wantNode(a, b api.Hash) api.Hash {
	return api.Hash(sha256.Sum256(slices.Concat([]byte{1}, a[:], b[:])))
}

// greatestBelow: the greatest power of two below n, which is above 1.
func greatestBelow(n uint64) uint64 {
	k := uint64(1)
	for k < n-k { // 2k < n, without wrapping round
		k *= 2
	}
	return k
}

// halves: a part, as MTH cuts it.
func halves(part api.Span) (left, right api.Span) {
	middle := part.Begin + greatestBelow(part.End-part.Begin)
	return api.Span{Begin: part.Begin, End: middle}, api.Span{Begin: middle, End: part.End}
}

// given: the leaves that are handed in, by their numbers; they may be.
type given struct {
	known         api.Span
	leaves, proof []api.Hash
}

func givenAt(begin uint64, leaves, proof []api.Hash) given {
	return given{api.Span{Begin: begin, End: begin + uint64(len(leaves))}, leaves, proof}
}

// none: none of the leaves that are handed in lies in the part.
func (g given) none(part api.Span) bool {
	return part.End <= g.known.Begin || g.known.End <= part.Begin
}

// parts: what the batch proof of the known leaves is of, in those of a part.
func (g given) parts(part api.Span) []api.Span {
	switch {
	case g.none(part):
		return []api.Span{part}
	case g.known.Begin <= part.Begin && part.End <= g.known.End:
		return nil
	}
	left, right := halves(part)
	return append(g.parts(left), g.parts(right)...)
}

// says: what they say of a part, the proof taken hash by hash as it comes.
func (g given) says(part api.Span, rest *[]api.Hash) api.Hash {
	if g.none(part) {
		next := (*rest)[0]
		*rest = (*rest)[1:]
		return next
	}
	if part.End-part.Begin == 1 {
		return g.leaves[part.Begin-g.known.Begin]
	}
	left, right := halves(part)
	one := g.says(left, rest)
	return wantNode(one, g.says(right, rest))
}

// saysOf: the same in a second way, for one part alone: each hash of the proof is of the part that stands at its place in the batch proof.
func (g given) saysOf(part api.Span, beside []api.Span) api.Hash {
	if g.none(part) {
		return g.proof[slices.Index(beside, part)]
	}
	if part.End-part.Begin == 1 {
		return g.leaves[part.Begin-g.known.Begin]
	}
	left, right := halves(part)
	return wantNode(g.saysOf(left, beside), g.saysOf(right, beside))
}

// pathParts: what the path of a leaf of a part is of.
func pathParts(index uint64, part api.Span) []api.Span {
	if part.End-part.Begin == 1 {
		return nil
	}
	left, right := halves(part)
	if index < left.End {
		return append(pathParts(index, left), right)
	}
	return append(pathParts(index, right), left)
}

// wantCount: how many hashes the batch proof has, of leaves that may be.
func wantCount(begin, size uint64, count int) int {
	return len(givenAt(begin, make([]api.Hash, count), nil).parts(api.Span{End: size}))
}

// mayBe: there is such a size, and there are such leaves in it.
func mayBe(begin, size uint64, count int) bool {
	return size <= mostLeaves && begin <= size && uint64(count) <= size-begin
}

// wantError: of P19.1.
func wantError(begin, size uint64, leaves, proof []api.Hash) error {
	switch {
	case len(leaves) == 0:
		return api.ErrArg
	case !mayBe(begin, size, len(leaves)):
		return api.ErrRange
	case len(proof) != wantCount(begin, size, len(leaves)):
		return api.ErrProof
	}
	return nil
}

// wantRoot: P19.1.
func wantRoot(begin, size uint64, leaves, proof []api.Hash) (api.Hash, error) {
	if err := wantError(begin, size, leaves, proof); err != nil {
		return api.Hash{}, err
	}
	return givenAt(begin, leaves, proof).says(api.Span{End: size}, &proof), nil
}

// wantVerify: P19.2.
func wantVerify(begin, size uint64, leaves, proof []api.Hash, root api.Hash) error {
	said, err := wantRoot(begin, size, leaves, proof)
	if err == nil && said != root {
		return api.ErrProof
	}
	return err
}

// wantPath: P19.3.
func wantPath(begin, size uint64, leaves, proof []api.Hash, index uint64) ([]api.Hash, error) {
	if err := wantError(begin, size, leaves, proof); err != nil {
		return nil, err
	}
	g, all := givenAt(begin, leaves, proof), api.Span{End: size}
	if index < g.known.Begin || index >= g.known.End {
		return nil, api.ErrRange
	}
	beside := g.parts(all)
	var path []api.Hash
	for _, part := range pathParts(index, all) {
		path = append(path, g.saysOf(part, beside))
	}
	return path, nil
}

// Calls, held against what is wanted.

func checkRoot(t *testing.T, begin, size uint64, leaves, proof []api.Hash, want api.Hash, wantErr error) {
	t.Helper()
	if got, err := batch.Root(begin, size, leaves, proof); got != want || !isOnly(err, wantErr) {
		t.Fatalf("Root(%d, %d, %d leaves, %d hashes) = %x, %v; want %x, %v", begin, size, len(leaves), len(proof), got, err, want, wantErr)
	}
}

func checkVerify(t *testing.T, begin, size uint64, leaves, proof []api.Hash, root api.Hash, want error) {
	t.Helper()
	if err := batch.Verify(begin, size, leaves, proof, root); !isOnly(err, want) {
		t.Fatalf("Verify(%d, %d, %d leaves, %d hashes, ..) = %v, want %v", begin, size, len(leaves), len(proof), err, want)
	}
}

func checkPath(t *testing.T, begin, size uint64, leaves, proof []api.Hash, index uint64, want []api.Hash, wantErr error) {
	t.Helper()
	if got, err := batch.Path(begin, size, leaves, proof, index); !slices.Equal(got, want) || !isOnly(err, wantErr) {
		t.Fatalf("Path(%d, %d, %d leaves, %d hashes, %d) = %x, %v; want %x, %v", begin, size, len(leaves), len(proof), index, got, err, want, wantErr)
	}
}

// checkRefused: all three calls, whatever the root and the index.
func checkRefused(t *testing.T, begin, size uint64, leaves, proof []api.Hash, want error) {
	t.Helper()
	checkRoot(t, begin, size, leaves, proof, api.Hash{}, want)
	checkVerify(t, begin, size, leaves, proof, api.Hash{}, want)
	checkVerify(t, begin, size, leaves, proof, la, want)
	for _, index := range []uint64{begin, begin - 1, begin + uint64(len(leaves)), size, 0, greatest} {
		checkPath(t, begin, size, leaves, proof, index, nil, want)
	}
}

// checkSaid: Root and Verify, by the words of the chapter.
func checkSaid(t *testing.T, begin, size uint64, leaves, proof []api.Hash) {
	t.Helper()
	root, err := wantRoot(begin, size, leaves, proof)
	checkRoot(t, begin, size, leaves, proof, root, err)
	checkVerify(t, begin, size, leaves, proof, root, err)
	if err == nil {
		checkVerify(t, begin, size, leaves, proof, turned(root, int(begin%256)), api.ErrProof)
	}
}

// checkPathSaid: Path of a leaf by the words of the chapter, and that the path proves it.
func checkPathSaid(t *testing.T, begin, size uint64, leaves, proof []api.Hash, index uint64) {
	t.Helper()
	path, err := wantPath(begin, size, leaves, proof, index)
	checkPath(t, begin, size, leaves, proof, index, path, err)
	if err != nil {
		return
	}
	root, _ := batch.Root(begin, size, leaves, proof)
	if got, err := verify.Root(index, size, leaves[index-begin], path); got != root || err != nil {
		t.Fatalf("verify.Root of the path of %d in %d leaves from %d on = %x, %v, want %x", index, size, begin, got, err, root)
	}
}

// Hashes and numbers.

func anyHash(rnd *rand.Rand) api.Hash {
	var h api.Hash
	rnd.Read(h[:])
	return h
}

func anyHashes(rnd *rand.Rand, count int) []api.Hash {
	all := make([]api.Hash, count)
	for i := range all {
		all[i] = anyHash(rnd)
	}
	return all
}

// anyGiven: so many leaves' hashes, and as many of a proof as they want.
func anyGiven(rnd *rand.Rand, begin, size uint64, count int) (leaves, proof []api.Hash) {
	return anyHashes(rnd, count), anyHashes(rnd, wantCount(begin, size, count))
}

// turned: with another bit at one place of the 256.
func turned(h api.Hash, bit int) api.Hash {
	h[bit/8] ^= 1 << (bit % 8)
	return h
}

// withTurned: a list of its own, with a bit of one hash turned.
func withTurned(all []api.Hash, at, bit int) []api.Hash {
	all = slices.Clone(all)
	all[at] = turned(all[at], bit)
	return all
}

// without: a list of its own, without one hash.
func without(all []api.Hash, at int) []api.Hash {
	return slices.Delete(slices.Clone(all), at, at+1)
}

// with: a list of its own, with one hash more.
func with(all []api.Hash, at int, h api.Hash) []api.Hash {
	return slices.Insert(slices.Clone(all), at, h)
}

// edgeSizes: sizes about powers of two, and halfway between them, up to 2^63.
func edgeSizes() []uint64 {
	var all []uint64
	for level := range 64 {
		p := uint64(1) << level
		for _, n := range []uint64{p - 1, p, p + 1, p + 2, p + p/2, p + p/4 - 1} {
			if n >= 1 && n <= mostLeaves {
				all = append(all, n)
			}
		}
	}
	slices.Sort(all)
	return slices.Compact(all)
}

// edgesBelow: numbers from 0 to end - 1 about its edges, about some powers of two, and some in between.
func edgesBelow(end uint64, rnd *rand.Rand) []uint64 {
	all := []uint64{0, 1, 2, end - 1, end - 2, end - 3, end / 2, end/2 - 1, end/2 + 1}
	for range 3 {
		p := uint64(1) << rnd.Intn(bits.Len64(end))
		all = append(all, p-1, p, p+1, end-p, end-p-1, rnd.Uint64()%end, rnd.Uint64()%end>>rnd.Intn(64))
	}
	slices.Sort(all)
	all = slices.Compact(all)
	return slices.DeleteFunc(all, func(n uint64) bool { return n >= end })
}

// countsUpTo: numbers of leaves from 1 to most, few of them above some dozens.
func countsUpTo(most uint64, rnd *rand.Rand) []int {
	var all []int
	for _, n := range []uint64{1, 2, 3, 4, 5, 7, uint64(rnd.Intn(60)) + 1, most} {
		if n <= most && n <= 100 {
			all = append(all, int(n))
		}
	}
	slices.Sort(all)
	return slices.Compact(all)
}

// sizesThatAreNone: above the greatest one.
func sizesThatAreNone() []uint64 {
	return []uint64{mostLeaves + 1, mostLeaves + 2, mostLeaves + 1<<62, greatest - 1, greatest}
}

func hashesOf(numbers ...byte) []api.Hash {
	var all []api.Hash
	for _, n := range numbers {
		all = append(all, api.Hash{n})
	}
	return all
}

// P19.1 to P19.3: the examples of the chapter

var (
	la = api.Hash{1}
	lb = api.Hash{2}
	lc = api.Hash{3}
	ld = api.Hash{4}
	le = api.Hash{5}
	lx = api.Hash{0xff}
)

func list(all ...api.Hash) []api.Hash { return all }

func rootOfFive() api.Hash {
	return wantNode(wantNode(wantNode(la, lb), wantNode(lc, ld)), le)
}

func TestExamplesOfRoot(t *testing.T) {
	checkRoot(t, 1, 5, list(lb, lc), list(la, ld, le), rootOfFive(), nil)
	checkRoot(t, 0, 5, list(la, lb, lc, ld, le), nil, rootOfFive(), nil)
	checkRoot(t, 4, 5, list(le), list(lx), wantNode(lx, le), nil)
	checkRoot(t, 0, 1, list(la), nil, la, nil)
	checkRoot(t, 0, 1, list(la), list(lb), api.Hash{}, api.ErrProof)
	checkRoot(t, 1, 5, nil, list(la), api.Hash{}, api.ErrArg)
	for count := range 5 {
		checkRoot(t, 4, 5, list(ld, le), list(la, lb, lc, ld)[:count], api.Hash{}, api.ErrRange)
		checkRoot(t, 18446744073709551615, 5, list(la, lb), list(la, lb, lc, ld)[:count], api.Hash{}, api.ErrRange)
	}
}

func TestExamplesOfVerify(t *testing.T) {
	checkVerify(t, 1, 5, list(lb, lc), list(la, ld, le), rootOfFive(), nil)
	checkVerify(t, 1, 5, list(lb, lc), list(la, ld, le), lx, api.ErrProof)
	checkVerify(t, 1, 5, list(lb, lc), list(la, ld), rootOfFive(), api.ErrProof)
}

func TestExamplesOfPath(t *testing.T) {
	leaves, proof := list(lb, lc), list(la, ld, le)
	checkPath(t, 1, 5, leaves, proof, 1, list(la, wantNode(lc, ld), le), nil)
	checkPath(t, 1, 5, leaves, proof, 2, list(ld, wantNode(la, lb), le), nil)
	checkPath(t, 1, 5, leaves, proof, 3, nil, api.ErrRange)
	checkPath(t, 1, 5, leaves, proof[:2], 9, nil, api.ErrProof)
}

// DOC.md's fifth example, and its fourth one's path.
func TestExamplesOfTheDocument(t *testing.T) {
	var l [5]api.Hash
	for i := range l {
		l[i] = hash.Leaf(string(rune('a' + i)))
	}
	four := wantNode(wantNode(l[0], l[1]), wantNode(l[2], l[3]))
	root := wantNode(four, l[4])
	checkVerify(t, 1, 5, l[1:3], list(l[0], l[3], l[4]), root, nil)
	checkPath(t, 4, 5, l[4:], list(four), 4, list(four), nil)
	checkPath(t, 0, 5, l[:], nil, 4, list(four), nil)
}

// The words themselves, held against trees whose roots are written out.
func TestTheWordsOfTheChapter(t *testing.T) {
	for n, want := range map[uint64]uint64{2: 1, 3: 2, 4: 2, 5: 4, 8: 4, 9: 8, mostLeaves: 1 << 62, mostLeaves - 1: 1 << 62, 1<<62 + 1: 1 << 62} {
		if k := greatestBelow(n); k != want {
			t.Errorf("k of %d is %d, want %d", n, k, want)
		}
	}
	root, err := wantRoot(2, 7, list(la, lb), list(lc, ld))
	if want := wantNode(wantNode(lc, wantNode(la, lb)), ld); root != want || err != nil {
		t.Error("the leaves 2 and 3 in 7")
	}
	path, err := wantPath(5, 7, list(la, lb), list(lc, ld), 6)
	if want := list(wantNode(ld, la), lc); !slices.Equal(path, want) || err != nil {
		t.Error("the path of 6 out of the leaves 5 and 6 in 7")
	}
	if n := wantCount(1, mostLeaves, 1); n != 63 {
		t.Errorf("the leaf 1 in 2^63 wants %d hashes", n)
	}
}

// P19.1: Root

func TestRootInSmallSizes(t *testing.T) {
	rnd := rand.New(rand.NewSource(1))
	for size := uint64(1); size <= 40; size++ {
		for begin := range size {
			for count := 1; count <= int(size-begin); count++ {
				leaves, proof := anyGiven(rnd, begin, size, count)
				checkSaid(t, begin, size, leaves, proof)
				checkSaid(t, begin, size, leaves, with(proof, len(proof), anyHash(rnd)))
				if len(proof) > 0 {
					checkSaid(t, begin, size, leaves, proof[1:])
				}
			}
		}
	}
}

// Whether there are leaves, whether they stand in the size, how many hashes there are: each with each.
func TestRootOfEachCountOfLeavesAndHashes(t *testing.T) {
	rnd := rand.New(rand.NewSource(2))
	leaves, proof := anyHashes(rnd, 20), anyHashes(rnd, 20)
	for size := uint64(0); size <= 13; size++ {
		for begin := range size + 3 {
			for count := range 17 {
				for hashes := range 12 {
					checkSaid(t, begin, size, leaves[:count], proof[:hashes])
				}
			}
		}
	}
}

func TestRootAboutPowersOfTwo(t *testing.T) {
	rnd := rand.New(rand.NewSource(3))
	for _, size := range edgeSizes() {
		for _, begin := range edgesBelow(size, rnd) {
			counts := countsUpTo(size-begin, rnd)
			count := counts[rnd.Intn(len(counts))]
			leaves, proof := anyGiven(rnd, begin, size, count)
			checkSaid(t, begin, size, leaves, proof)
			checkRoot(t, begin, size, leaves, with(proof, rnd.Intn(len(proof)+1), anyHash(rnd)), api.Hash{}, api.ErrProof)
			if len(proof) > 0 {
				checkRoot(t, begin, size, leaves, without(proof, rnd.Intn(len(proof))), api.Hash{}, api.ErrProof)
			}
		}
	}
}

// Stretches that lie on both sides of a place where great trees meet, or reach to the end.
func TestRootAcrossTheEdgesOfGreatTrees(t *testing.T) {
	rnd := rand.New(rand.NewSource(4))
	for level := 3; level < 63; level += 1 + level/12 {
		edge := uint64(1) << level
		for _, size := range []uint64{edge, edge + 1, edge + 3, 2*edge - 1, 2 * edge, mostLeaves - 1, mostLeaves} {
			for _, begin := range []uint64{edge - 3, edge - 1, edge, size - 4} {
				for _, count := range []int{1, 2, 4, 5} {
					if mayBe(begin, size, count) {
						leaves, proof := anyGiven(rnd, begin, size, count)
						checkSaid(t, begin, size, leaves, proof)
						checkPathSaid(t, begin, size, leaves, proof, begin+uint64(rnd.Intn(count)))
					}
				}
			}
		}
	}
}

// In a whole tree the bits of one leaf's number say from the highest on whether the hash of a level stands ahead of the leaf's; those ahead come from above, those behind from below.
func TestRootOfOneLeafOfAWholeTree(t *testing.T) {
	rnd := rand.New(rand.NewSource(5))
	for level := range 64 {
		size := uint64(1) << level
		for _, index := range edgesBelow(size, rnd) {
			leaf, byLevel := anyHash(rnd), anyHashes(rnd, level)
			var ahead, behind []api.Hash
			root := leaf
			for at, h := range byLevel {
				if index&(1<<at) == 0 {
					root = wantNode(root, h)
					behind = append(behind, h)
				} else {
					root = wantNode(h, root)
					ahead = append(list(h), ahead...)
				}
			}
			proof := append(ahead, behind...)
			checkRoot(t, index, size, list(leaf), proof, root, nil)
			checkPath(t, index, size, list(leaf), proof, index, byLevel, nil)
		}
	}
}

// mth: of leaves' hashes.
func mth(leaves []api.Hash) api.Hash {
	if len(leaves) == 1 {
		return leaves[0]
	}
	k := greatestBelow(uint64(len(leaves)))
	return wantNode(mth(leaves[:k]), mth(leaves[k:]))
}

func TestRootOfAllLeaves(t *testing.T) {
	leaves := anyHashes(rand.New(rand.NewSource(6)), 1<<16+3)
	for count := range 600 {
		if count > 0 {
			checkRoot(t, 0, uint64(count), leaves[:count], nil, mth(leaves[:count]), nil)
			checkRoot(t, 0, uint64(count), leaves[:count], list(la), api.Hash{}, api.ErrProof)
		}
	}
	for _, count := range []int{1023, 4096, 4097, 1<<16 - 1, 1 << 16, 1<<16 + 1, 1<<16 + 3} {
		checkRoot(t, 0, uint64(count), leaves[:count], nil, mth(leaves[:count]), nil)
	}
}

// Leaves that are a whole tree, in the greatest size: what they say of it goes up as one leaf's hash does.
func TestRootOfAWholeTreeOfLeaves(t *testing.T) {
	rnd := rand.New(rand.NewSource(7))
	many := anyHashes(rnd, 1<<12)
	for level := range 13 {
		leaves := many[:1<<level]
		for _, index := range []uint64{0, 1, 2, 5, 1<<(63-level) - 2, 1<<(63-level) - 1} {
			root := mth(leaves)
			var ahead, behind []api.Hash
			for at := range 63 - level {
				h := anyHash(rnd)
				if index&(1<<at) == 0 {
					root = wantNode(root, h)
					behind = append(behind, h)
				} else {
					root = wantNode(h, root)
					ahead = append(list(h), ahead...)
				}
			}
			checkRoot(t, index<<level, mostLeaves, leaves, append(ahead, behind...), root, nil)
		}
	}
}

func TestRootOfManyLeaves(t *testing.T) {
	rnd := rand.New(rand.NewSource(8))
	leaves := anyHashes(rnd, 5000)
	for range 40 {
		size := rnd.Uint64()>>rnd.Intn(49) + 6000
		if size > mostLeaves {
			size = mostLeaves
		}
		begin := rnd.Uint64() % (size - 5000)
		count := 1000 + rnd.Intn(4001)
		proof := anyHashes(rnd, wantCount(begin, size, count))
		checkSaid(t, begin, size, leaves[:count], proof)
		checkPathSaid(t, begin, size, leaves[:count], proof, begin+uint64(rnd.Intn(count)))
	}
}

// Hashes may be alike, and zero: nothing but their number and their places tells.
func TestHashesThatAreAlike(t *testing.T) {
	for size := uint64(1); size <= 24; size++ {
		for begin := range size {
			for count := 1; count <= int(size-begin); count++ {
				for _, h := range []api.Hash{{}, la} {
					leaves, proof := slices.Repeat(list(h), count), slices.Repeat(list(h), wantCount(begin, size, count))
					checkSaid(t, begin, size, leaves, proof)
					checkSaid(t, begin, size, leaves, slices.Repeat(list(h), len(proof)+1))
					checkPathSaid(t, begin, size, leaves, proof, begin+uint64(count)/2)
				}
			}
		}
	}
}

func TestFarTooManyHashes(t *testing.T) {
	rnd := rand.New(rand.NewSource(9))
	many, leaves := anyHashes(rnd, 1<<20), anyHashes(rnd, 4)
	for _, hashes := range []int{127, 128, 200, 255, 256, 1000, 65535, 65536, 1<<20 - 1, 1 << 20} { // a batch proof has 126 at most
		for _, size := range []uint64{4, 5, 7, 300, 1<<62 - 1, 1<<63 - 1, 1 << 63} {
			for _, begin := range []uint64{0, size / 2, size - 4} {
				for count := 1; count <= 4; count++ {
					if mayBe(begin, size, count) {
						checkRefused(t, begin, size, leaves[:count], many[:hashes], api.ErrProof)
					}
				}
			}
		}
	}
}

// No count of hashes beside the right one is enough.
func TestEachOtherCountOfHashes(t *testing.T) {
	rnd := rand.New(rand.NewSource(10))
	many := anyHashes(rnd, 140)
	for _, size := range []uint64{1, 2, 3, 5, 8, 100, 1 << 20, 1<<40 + 7, mostLeaves - 1, mostLeaves} {
		for _, begin := range edgesBelow(size, rnd) {
			for _, count := range countsUpTo(min(size-begin, 4), rnd) {
				right := wantCount(begin, size, count)
				for hashes := range many {
					if hashes != right {
						checkRoot(t, begin, size, hashesOf(1, 2, 3, 4)[:count], many[:hashes], api.Hash{}, api.ErrProof)
					}
				}
			}
		}
	}
}

// ErrArg goes ahead of all else: no leaves, whatever the numbers and the hashes.
func TestNoLeaves(t *testing.T) {
	numbers := append(sizesThatAreNone(), 0, 1, 2, 5, 300, mostLeaves-1, mostLeaves)
	for _, size := range numbers {
		for _, begin := range append(numbers, size, size+1, size-1) {
			for _, hashes := range []int{0, 1, 2, 63, 64, 126, 200} {
				for _, none := range [][]api.Hash{nil, {}, hashesOf(1, 2)[:0]} {
					checkRefused(t, begin, size, none, make([]api.Hash, hashes), api.ErrArg)
				}
			}
		}
	}
}

// ErrRange goes ahead of ErrProof: however many hashes there are.
func refusedRange(t *testing.T, begin, size uint64, count int) {
	t.Helper()
	for _, hashes := range []int{0, 1, 2, 3, 62, 63, 64, 65, 126, 200} {
		checkRefused(t, begin, size, make([]api.Hash, count), make([]api.Hash, hashes), api.ErrRange)
	}
}

func TestSizesThatAreNone(t *testing.T) {
	for _, size := range sizesThatAreNone() {
		for _, begin := range []uint64{0, 1, 2, mostLeaves - 1, mostLeaves, mostLeaves + 1, size - 3, size - 1, size, size + 1, size / 2, greatest} {
			for _, count := range []int{1, 2, 3, 100} {
				refusedRange(t, begin, size, count)
			}
		}
	}
}

func TestLeavesAboveTheSize(t *testing.T) {
	for _, size := range append(edgeSizes(), 0) {
		for _, begin := range []uint64{size, size + 1, size + 2, size - 1, size - 2, size + size/2, mostLeaves, mostLeaves + 1} {
			for _, count := range []int{1, 2, 3, 7} {
				if !mayBe(begin, size, count) {
					refusedRange(t, begin, size, count)
				}
			}
		}
	}
	for size := uint64(0); size <= 9; size++ {
		for begin := range size + 4 {
			refusedRange(t, begin, size, int(max(size, begin)-begin)+1)
			refusedRange(t, begin, size, 1000)
		}
	}
}

// Where begin and the number of leaves together wrap round, they would be a number that is below size.
func TestLeavesWhoseEndDoesNotFit(t *testing.T) {
	for _, size := range []uint64{0, 1, 2, 3, 5, 100, mostLeaves - 1, mostLeaves} {
		for below := uint64(1); below <= 6; below++ {
			for _, count := range []int{1, 2, 3, 4, 5, 6, 7, 8, 11, 105, 106, 107} {
				refusedRange(t, -below, size, count)
			}
		}
		refusedRange(t, mostLeaves+mostLeaves/2, size, 9)
		refusedRange(t, -size, size, int(size%1000)+1)
	}
}

// P19.2: Verify

func TestVerifyOfOtherRoots(t *testing.T) {
	rnd := rand.New(rand.NewSource(11))
	for _, size := range []uint64{1, 2, 3, 4, 5, 6, 7, 8, 9, 100, 255, 256, 257, 1<<40 + 5, mostLeaves - 1, mostLeaves} {
		for _, begin := range edgesBelow(size, rnd) {
			for _, count := range countsUpTo(min(size-begin, 9), rnd) {
				leaves, proof := anyGiven(rnd, begin, size, count)
				root := givenAt(begin, leaves, proof).saysOf(api.Span{End: size}, givenAt(begin, leaves, proof).parts(api.Span{End: size}))
				checkVerify(t, begin, size, leaves, proof, root, nil)
				others := []api.Hash{{}, hash.Empty(), wantNode(root, root), turned(root, rnd.Intn(256)), anyHash(rnd)}
				if size > 1 {
					others = append(others, leaves[0], leaves[count-1], wantNode(leaves[0], root))
				}
				if len(proof) > 0 {
					others = append(others, proof[0], proof[len(proof)-1])
				}
				for _, other := range others {
					checkVerify(t, begin, size, leaves, proof, other, api.ErrProof)
				}
			}
		}
	}
}

// A root is held against the other one as a whole: each bit counts.
func TestVerifyOfARootWithABitTurned(t *testing.T) {
	for bit := range 256 {
		checkVerify(t, 1, 5, list(lb, lc), list(la, ld, le), turned(rootOfFive(), bit), api.ErrProof)
		checkVerify(t, 0, 1, list(turned(la, bit)), nil, la, api.ErrProof)
		checkVerify(t, 0, 1, list(turned(la, bit)), nil, turned(la, bit), nil)
	}
}

// With an error Root answers the zero hash; a root that is the zero hash is not that one.
func TestVerifyOfTheZeroRoot(t *testing.T) {
	zero := make([]api.Hash, 130)
	for _, hashes := range []int{0, 1, 2, 4, 130} {
		checkVerify(t, 1, 5, zero[:2], zero[:hashes], api.Hash{}, api.ErrProof)
		checkVerify(t, 1, 5, nil, zero[:hashes], api.Hash{}, api.ErrArg)
		checkVerify(t, 4, 5, zero[:2], zero[:hashes], api.Hash{}, api.ErrRange)
		checkVerify(t, 0, mostLeaves+1, zero[:2], zero[:hashes], api.Hash{}, api.ErrRange)
	}
	checkVerify(t, 1, 5, zero[:2], zero[:3], api.Hash{}, api.ErrProof) // they say another one
	checkVerify(t, 0, 1, zero[:1], nil, api.Hash{}, nil)               // here it is: the leaf's hash is zero
}

// What too few or too many hashes would come to, taken as far as they go, is no root.
func TestVerifyOfOtherCountsWithTheirRoot(t *testing.T) {
	checkVerify(t, 0, 3, list(la, lb), nil, wantNode(la, lb), api.ErrProof)
	checkVerify(t, 0, 3, list(la, lb), list(lc, ld), wantNode(wantNode(la, lb), lc), api.ErrProof)
	checkVerify(t, 0, 3, list(la, lb), list(lc, ld), wantNode(wantNode(wantNode(la, lb), lc), ld), api.ErrProof)
	checkVerify(t, 0, 2, list(la, lb), list(lc), wantNode(la, lb), api.ErrProof)
	checkVerify(t, 0, 5, list(la), list(lb, wantNode(lc, ld)), wantNode(wantNode(la, lb), wantNode(lc, ld)), api.ErrProof)
}

// P19.3: Path

func TestPathInSmallSizes(t *testing.T) {
	rnd := rand.New(rand.NewSource(12))
	for size := uint64(1); size <= 26; size++ {
		for begin := range size {
			for count := 1; count <= int(size-begin); count++ {
				leaves, proof := anyGiven(rnd, begin, size, count)
				for index := range size + 2 {
					checkPathSaid(t, begin, size, leaves, proof, index)
				}
			}
		}
	}
}

func TestPathAboutPowersOfTwo(t *testing.T) {
	rnd := rand.New(rand.NewSource(13))
	for _, size := range edgeSizes() {
		for _, begin := range edgesBelow(size, rnd)[:4] {
			counts := countsUpTo(min(size-begin, 40), rnd)
			count := uint64(counts[rnd.Intn(len(counts))])
			leaves, proof := anyGiven(rnd, begin, size, int(count))
			for _, index := range []uint64{begin, begin + count/2, begin + count - 1} {
				checkPathSaid(t, begin, size, leaves, proof, index)
			}
			for _, index := range []uint64{begin - 1, begin + count, 0, size - 1, size, size + 1, begin + size, mostLeaves, mostLeaves + begin, greatest} {
				if index < begin || index >= begin+count {
					checkPath(t, begin, size, leaves, proof, index, nil, api.ErrRange)
				}
			}
		}
	}
}

// Root's error goes ahead of ErrRange for the index, and an index is none of the leaves' wherever it lies else.
func TestPathOfIndexesThatAreNot(t *testing.T) {
	rnd := rand.New(rand.NewSource(14))
	for size := uint64(1); size <= 20; size++ {
		for begin := range size {
			for count := 1; count <= int(size-begin); count++ {
				leaves, proof := anyGiven(rnd, begin, size, count)
				end := begin + uint64(count)
				for _, index := range []uint64{begin - 1, begin - 2, 0, end, end + 1, size, size + 1, begin + mostLeaves, begin - mostLeaves + 1, mostLeaves, greatest, greatest - 1} {
					if begin <= index && index < end {
						continue
					}
					checkPath(t, begin, size, leaves, proof, index, nil, api.ErrRange)
					checkPath(t, begin, size, leaves, with(proof, 0, la), index, nil, api.ErrProof)
					checkPath(t, begin, size, nil, proof, index, nil, api.ErrArg)
					checkPath(t, begin, size, with(anyHashes(rnd, int(size-begin)), 0, la), proof, index, nil, api.ErrRange)
				}
			}
		}
	}
}

func TestPathOfOneLeafAlone(t *testing.T) {
	checkPath(t, 0, 1, list(la), nil, 0, nil, nil)
	checkPath(t, 0, 1, list(la), nil, 1, nil, api.ErrRange)
	checkPath(t, 0, 1, list(la), nil, greatest, nil, api.ErrRange)
	checkPath(t, 0, 1, list(la), list(lb), 0, nil, api.ErrProof)
	checkPath(t, 0, 1, list(la, lb), nil, 0, nil, api.ErrRange)
	checkPath(t, 0, 1, nil, nil, 0, nil, api.ErrArg)
	checkPath(t, 0, 0, list(la), nil, 0, nil, api.ErrRange)
}

// R1, R2: any numbers, any hashes, any count of them

// anyNumber: small ones, such about powers of two, and any.
func anyNumber(rnd *rand.Rand) uint64 {
	switch rnd.Intn(4) {
	case 0:
		return uint64(rnd.Intn(20))
	case 1:
		return uint64(1)<<rnd.Intn(64) + uint64(rnd.Intn(5)) - 2
	case 2:
		return rnd.Uint64() >> rnd.Intn(64)
	}
	return mostLeaves + uint64(rnd.Intn(5)) - 2
}

// nearCount: often the count that is right, else one about it, or any.
func nearCount(rnd *rand.Rand, right int) int {
	switch rnd.Intn(5) {
	case 0:
		return max(0, right+rnd.Intn(5)-2)
	case 1:
		return rnd.Intn(130)
	}
	return right
}

func TestBatchesOfAnything(t *testing.T) {
	rnd := rand.New(rand.NewSource(15))
	said := 0
	for range 13000 {
		begin, size := anyNumber(rnd), anyNumber(rnd)
		if rnd.Intn(3) > 0 && size > 0 {
			begin %= size
		}
		leaves := anyHashes(rnd, rnd.Intn(12))
		right := 0
		if len(leaves) > 0 && mayBe(begin, size, len(leaves)) {
			right = wantCount(begin, size, len(leaves))
		}
		proof := anyHashes(rnd, nearCount(rnd, right))
		if wantError(begin, size, leaves, proof) == nil {
			said++
		}
		checkSaid(t, begin, size, leaves, proof)
		checkPathSaid(t, begin, size, leaves, proof, begin+uint64(rnd.Intn(14))-1)
		checkPathSaid(t, begin, size, leaves, proof, anyNumber(rnd))
		other := anyHash(rnd)
		checkVerify(t, begin, size, leaves, proof, other, wantVerify(begin, size, leaves, proof, other))
	}
	if said < 2500 {
		t.Errorf("just %d said a root", said)
	}
}

// P19.4: what chapter 8 answers verifies, and nothing else does

// logOf: so many leaves, no two alike.
func logOf(t *testing.T, count int) *naive.Log {
	t.Helper()
	l := naive.New()
	for i := range count {
		if _, err := l.Append(leafText(uint64(i))); err != nil {
			t.Fatal(err)
		}
	}
	return l
}

func leafText(i uint64) string { return fmt.Sprintf("leaf %d", i) }

func leafHash(i uint64) api.Hash { return hash.Leaf(leafText(i)) }

// leavesOf: the hashes of a stretch of such leaves.
func leavesOf(begin, end uint64) []api.Hash {
	var all []api.Hash
	for i := begin; i < end; i++ {
		all = append(all, leafHash(i))
	}
	return all
}

func rootOf(t *testing.T, l *naive.Log, size uint64) api.Hash {
	t.Helper()
	root, err := l.Root(size)
	if err != nil {
		t.Fatal(err)
	}
	return root
}

func pathOf(t *testing.T, l *naive.Log, index, size uint64) []api.Hash {
	t.Helper()
	path, err := l.Path(index, size)
	if err != nil {
		t.Fatal(err)
	}
	return path
}

func batchOf(t *testing.T, l *naive.Log, begin, end, size uint64) []api.Hash {
	t.Helper()
	proof, err := l.Batch(begin, end, size)
	if err != nil {
		t.Fatal(err)
	}
	return proof
}

// checkBatchOf: the batch proof of a stretch of a log's leaves shows them, and the path of each of some.
func checkBatchOf(t *testing.T, l *naive.Log, begin, end, size uint64, indexes []uint64) {
	t.Helper()
	root, leaves, proof := rootOf(t, l, size), leavesOf(begin, end), batchOf(t, l, begin, end, size)
	checkRoot(t, begin, size, leaves, proof, root, nil)
	checkVerify(t, begin, size, leaves, proof, root, nil)
	checkVerify(t, begin, size, leaves, proof, rootOf(t, l, size-1), api.ErrProof)
	for _, index := range indexes {
		path := pathOf(t, l, index, size)
		checkPath(t, begin, size, leaves, proof, index, path, nil)
		if got, err := verify.Root(index, size, leaves[index-begin], path); got != root || err != nil {
			t.Fatalf("verify.Root of the path of %d = %x, %v, want %x", index, got, err, root)
		}
	}
}

func TestEachBatchProofOfALogVerifies(t *testing.T) {
	const most = 22
	l := logOf(t, most)
	for size := uint64(1); size <= most; size++ {
		for begin := range size {
			for end := begin + 1; end <= size; end++ {
				var all []uint64
				for index := begin; index < end; index++ {
					all = append(all, index)
				}
				checkBatchOf(t, l, begin, end, size, all)
			}
		}
	}
}

func TestSomeBatchProofsOfGreaterLogsVerify(t *testing.T) {
	const most = 420
	l := logOf(t, most)
	rnd := rand.New(rand.NewSource(16))
	for size := uint64(1); size <= most; size++ {
		begin := rnd.Uint64() % size
		end := begin + 1 + rnd.Uint64()%(size-begin)
		checkBatchOf(t, l, begin, end, size, []uint64{begin, end - 1, begin + rnd.Uint64()%(end-begin)})
		checkBatchOf(t, l, 0, size, size, []uint64{rnd.Uint64() % size})
	}
	for _, size := range []uint64{255, 256, 257, 300, 384, 400} {
		for _, s := range []api.Span{{Begin: 0, End: 1}, {Begin: 0, End: 128}, {Begin: 127, End: 129}, {Begin: 128, End: 192}, {Begin: size - 1, End: size}, {Begin: 1, End: size - 1}, {Begin: 200, End: size}} {
			checkBatchOf(t, l, s.Begin, s.End, size, []uint64{s.Begin, s.End - 1})
		}
	}
}

// No other leaf, at whatever place of the stretch, and no other order of them.
func TestNoOtherLeavesVerify(t *testing.T) {
	const most = 16
	l := logOf(t, most)
	rnd := rand.New(rand.NewSource(17))
	for size := uint64(1); size <= most; size++ {
		root := rootOf(t, l, size)
		for begin := range size {
			for end := begin + 1; end <= size; end++ {
				proof := batchOf(t, l, begin, end, size)
				for _, other := range changed(leavesOf(begin, end), rnd) {
					if len(other) == 0 {
						continue
					}
					err := batch.Verify(begin, size, other, proof, root)
					if !isOnly(err, api.ErrProof) && !(begin+uint64(len(other)) > size && isOnly(err, api.ErrRange)) {
						t.Fatalf("other leaves of [%d, %d) in %d: %v", begin, end, size, err)
					}
				}
			}
		}
	}
}

// The same leaves at no other place, with no other size's root, and in no other size.
func TestABatchProofIsOfOneStretch(t *testing.T) {
	const most = 16
	l := logOf(t, most)
	var roots []api.Hash
	for size := range uint64(most + 1) {
		roots = append(roots, rootOf(t, l, size))
	}
	for size := uint64(1); size <= most; size++ {
		for begin := range size {
			for end := begin + 1; end <= size; end++ {
				leaves, proof := leavesOf(begin, end), batchOf(t, l, begin, end, size)
				for other := range uint64(most + 1) {
					if other != size {
						checkVerify(t, begin, size, leaves, proof, roots[other], api.ErrProof)
					}
					if other == begin {
						continue
					}
					if err := batch.Verify(other, size, leaves, proof, roots[size]); !isOnly(err, api.ErrProof) && (other+end-begin <= size || !isOnly(err, api.ErrRange)) {
						t.Fatalf("the leaves [%d, %d) in %d at %d: %v", begin, end, size, other, err)
					}
				}
			}
		}
	}
}

// changed: lists that are not as all is: with a hash turned, moved, left out, put in, told twice, put in place of another one.
func changed(all []api.Hash, rnd *rand.Rand) [][]api.Hash {
	var lists [][]api.Hash
	for at := range all {
		lists = append(lists, without(all, at), withTurned(all, at, rnd.Intn(256)), withTurned(all, at, 0), withTurned(all, at, 255), with(all, at, all[at]))
		for other := range at {
			moved := with(without(all, at), other, all[at])
			swapped := slices.Clone(all)
			swapped[at], swapped[other] = swapped[other], swapped[at]
			replaced := slices.Clone(all)
			replaced[at] = replaced[other]
			lists = append(lists, moved, swapped, replaced)
		}
	}
	lists = append(lists, with(all, 0, anyHash(rnd)), with(all, len(all), anyHash(rnd)), with(all, len(all), api.Hash{}))
	if len(all) > 0 {
		lists = append(lists, nil, make([]api.Hash, len(all)))
	}
	return lists
}

// Of one stretch, its leaves and one root no second proof verifies.
func TestNoOtherBatchProofVerifies(t *testing.T) {
	const most = 24
	l := logOf(t, most)
	rnd := rand.New(rand.NewSource(18))
	for size := uint64(1); size <= most; size++ {
		root := rootOf(t, l, size)
		for begin := range size {
			for end := begin + 1; end <= size; end++ {
				leaves := leavesOf(begin, end)
				for _, other := range changed(batchOf(t, l, begin, end, size), rnd) {
					checkVerify(t, begin, size, leaves, other, root, api.ErrProof)
				}
			}
		}
	}
}

// Each bit of each hash, of the leaves' too, is in the root.
func TestEachBitOfABatchProofCounts(t *testing.T) {
	const size = 23
	l := logOf(t, size)
	root := rootOf(t, l, size)
	for _, s := range []api.Span{{Begin: 0, End: 1}, {Begin: 9, End: 12}, {Begin: 15, End: 17}, {Begin: 20, End: 23}} {
		leaves, proof := leavesOf(s.Begin, s.End), batchOf(t, l, s.Begin, s.End, size)
		for bit := range 256 {
			for at := range leaves {
				checkVerify(t, s.Begin, size, withTurned(leaves, at, bit), proof, root, api.ErrProof)
			}
			for at := range proof {
				checkVerify(t, s.Begin, size, leaves, withTurned(proof, at, bit), root, api.ErrProof)
			}
		}
	}
}

// One leaf's batch proof has its path's hashes, those of what stands further to the left ahead.
func TestTheBatchProofOfOneLeafIsItsPath(t *testing.T) {
	const most = 90
	l := logOf(t, most)
	for size := uint64(1); size <= most; size += 1 + size/40 {
		for index := range size {
			path, proof := pathOf(t, l, index, size), batchOf(t, l, index, index+1, size)
			if !slices.Equal(fromTheLeft(t, index, size, path), proof) {
				t.Fatalf("the batch proof of %d in %d is not its path from the left", index, size)
			}
			checkPath(t, index, size, list(leafHash(index)), proof, index, path, nil)
		}
	}
}

// fromTheLeft: the hashes of a path in the order of what they are of.
func fromTheLeft(t *testing.T, index, size uint64, path []api.Hash) []api.Hash {
	t.Helper()
	parts, err := shape.Path(index, size)
	if err != nil || len(parts) != len(path) {
		t.Fatalf("shape.Path(%d, %d) = %v, %v, beside %d hashes", index, size, parts, err, len(path))
	}
	order := make([]int, len(path))
	for i := range order {
		order[i] = i
	}
	slices.SortFunc(order, func(a, b int) int { return cmp.Compare(parts[a].Begin, parts[b].Begin) })
	sorted := make([]api.Hash, len(path))
	for to, from := range order {
		sorted[to] = path[from]
	}
	return sorted
}

// Whatever the hashes of a path are, what they say is what they say from the left, as a batch proof.
func TestOneLeafByAnyPath(t *testing.T) {
	rnd := rand.New(rand.NewSource(19))
	for _, size := range edgeSizes() {
		for _, index := range edgesBelow(size, rnd) {
			leaf, path := anyHash(rnd), anyHashes(rnd, wantCount(index, size, 1))
			root, err := verify.Root(index, size, leaf, path)
			if err != nil {
				t.Fatal(err)
			}
			proof := fromTheLeft(t, index, size, path)
			checkRoot(t, index, size, list(leaf), proof, root, nil)
			checkPath(t, index, size, list(leaf), proof, index, path, nil)
		}
	}
}

// R4: what is handed in, and what is answered

// roomy: the hashes in a list with spare room, and that whole room.
func roomy(all []api.Hash) (cut, room []api.Hash) {
	room = append(slices.Clone(all), hashesOf(0xa1, 0xa2, 0xa3, 0xa4)...)
	return room[:len(all)], room
}

func TestWhatIsHandedInStays(t *testing.T) {
	rnd := rand.New(rand.NewSource(20))
	for size := uint64(1); size <= 40; size++ {
		for _, begin := range edgesBelow(size+1, rnd) {
			for _, count := range []int{0, 1, 2, 5, 9, 30} {
				hashes := 3
				if count > 0 && mayBe(begin, size, count) {
					hashes = wantCount(begin, size, count)
				}
				for _, n := range []int{hashes, hashes + 1, 64} {
					leaves, leafRoom := roomy(anyHashes(rnd, count))
					proof, proofRoom := roomy(anyHashes(rnd, n))
					leavesWere, proofWas := slices.Clone(leafRoom), slices.Clone(proofRoom)
					root, _ := batch.Root(begin, size, leaves, proof)
					batch.Verify(begin, size, leaves, proof, root)
					for index := begin; index < begin+uint64(count)+1; index++ {
						path, _ := batch.Path(begin, size, leaves, proof, index)
						spoil(path)
					}
					if !slices.Equal(leafRoom, leavesWere) || !slices.Equal(proofRoom, proofWas) {
						t.Fatalf("%d, %d, %d leaves, %d hashes: what was handed in, or its spare room, is turned", begin, size, count, n)
					}
				}
			}
		}
	}
}

// spoil: writes over a list, and over its spare room.
func spoil(all []api.Hash) {
	all = all[:cap(all)]
	for i := range all {
		all[i] = api.Hash{0xee, byte(i)}
	}
}

// Leaves and proof may be one list: nothing is written there.
func TestLeavesAndProofInOneList(t *testing.T) {
	room := hashesOf(1, 2, 3, 4, 5)
	was := slices.Clone(room)
	want, _ := wantRoot(1, 5, was[:2], was[2:])
	checkRoot(t, 1, 5, room[:2], room[2:], want, nil)
	for index := range uint64(2) {
		path, err := batch.Path(1, 5, room[:2], room[2:], 1+index)
		if err != nil {
			t.Fatal(err)
		}
		spoil(path)
	}
	if !slices.Equal(room, was) {
		t.Error("what was handed in is turned")
	}
}

// A path is memory of its own: with what it is overwritten, no other one has it, nor one of a later call.
func TestThePathIsMemoryOfItsOwn(t *testing.T) {
	rnd := rand.New(rand.NewSource(21))
	for size := uint64(1); size <= 33; size++ {
		count := int(size+1) / 2
		begin := size / 3
		leaves, proof := anyGiven(rnd, begin, size, count)
		var paths, wanted [][]api.Hash
		for range 2 {
			for index := begin; index < begin+uint64(count); index++ {
				path, err := batch.Path(begin, size, leaves, proof, index)
				if err != nil {
					t.Fatal(err)
				}
				paths, wanted = append(paths, path), append(wanted, slices.Clone(path))
			}
		}
		for i := range paths {
			if !slices.Equal(paths[i], wanted[i]) {
				t.Fatalf("the path %d in %d leaves is turned by another one", i, size)
			}
			spoil(paths[i])
			checkPathSaid(t, begin, size, leaves, proof, begin+uint64(i%count))
		}
	}
}

// What was handed in is not kept: the same lists with other hashes are others.
func TestNothingIsKept(t *testing.T) {
	leaves, proof := list(lb, lc), list(la, ld, le)
	path, _ := batch.Path(1, 5, leaves, proof, 1)
	was := slices.Clone(path)
	for range 3 {
		checkSaid(t, 1, 5, leaves, proof)
		checkPathSaid(t, 1, 5, leaves, proof, 2)
		leaves[0], leaves[1] = leaves[1], turned(leaves[0], 3)
		proof[0], proof[2] = proof[2], turned(proof[0], 9)
	}
	if !slices.Equal(path, was) {
		t.Error("a path is turned by what was handed in for it")
	}
}

func TestEmptyAndNilAreTheSame(t *testing.T) {
	for size := uint64(0); size <= 12; size++ {
		for begin := range size + 2 {
			for count := range 14 {
				leaves := slices.Repeat(list(la, lb), 7)[:count]
				for _, none := range [][]api.Hash{nil, {}, make([]api.Hash, 0, 5), hashesOf(1, 2)[:0]} {
					checkSaid(t, begin, size, leaves, none)
					checkPathSaid(t, begin, size, leaves, none, begin)
					checkSaid(t, begin, size, none, leaves)
				}
			}
		}
	}
}

// R5: side by side

func TestAskedSideBySide(t *testing.T) {
	const size = 50
	l := logOf(t, size)
	root := rootOf(t, l, size)
	leaves := leavesOf(0, size)
	var paths, proofs [][]api.Hash
	for i := range uint64(size) {
		paths = append(paths, pathOf(t, l, i, size))
		proofs = append(proofs, batchOf(t, l, i/2, i+1, size))
	}
	var all sync.WaitGroup
	for worker := range 8 {
		all.Go(func() {
			for step := range size {
				end := uint64((step*(2*worker+1)+worker)%size) + 1
				begin := (end - 1) / 2
				proof := proofs[end-1]
				if err := batch.Verify(begin, size, leaves[begin:end], proof, root); err != nil {
					t.Errorf("Verify of [%d, %d): %v", begin, end, err)
				}
				if path, err := batch.Path(begin, size, leaves[begin:end], proof, end-1); err != nil || !slices.Equal(path, paths[end-1]) {
					t.Errorf("Path of %d: %x, %v", end-1, path, err)
				}
				if err := batch.Verify(begin, size, leaves[begin:end], proof, leaves[0]); !isOnly(err, api.ErrProof) {
					t.Errorf("Verify of [%d, %d) with another root: %v", begin, end, err)
				}
			}
		})
	}
	all.Wait()
}
