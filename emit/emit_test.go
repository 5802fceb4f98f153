package emit_test

import (
	"crypto/sha256"
	"errors"
	"fmt"
	"math/rand"
	"slices"
	"testing"

	"cartulary/api"
	"cartulary/coord"
	"cartulary/emit"
	"cartulary/hash"
)

const (
	mostLeaves uint64 = 1 << 63
	greatest   uint64 = 1<<64 - 1
)

// tableErrors are the errors of the document's table, in its order.
func tableErrors() []error {
	return []error{
		api.ErrNil, api.ErrArg, api.ErrInput, api.ErrLimit, api.ErrRange, api.ErrGone, api.ErrUnavailable, api.ErrDead,
		api.ErrCorrupt, api.ErrProof, api.ErrSpent, api.ErrSigned, api.ErrFork, api.ErrOld, api.ErrStopped, api.ErrScript,
	}
}

// checkOnly: got is that error of the table, no other one, and tells no place.
func checkOnly(t *testing.T, what string, got, want error) {
	t.Helper()
	for _, e := range tableErrors() {
		if errors.Is(got, e) != (e == want) {
			t.Fatalf("%s: got %v, want %v: errors.Is says %v of %v", what, got, want, errors.Is(got, e), e)
		}
	}
	var f *api.Fault
	if errors.As(got, &f) && f.At != 0 {
		t.Fatalf("%s tells the place %d", what, f.At)
	}
}

func sum(parts ...[]byte) api.Hash { return api.Hash(sha256.Sum256(slices.Concat(parts...))) }

// wantNode: the definition of the document, with the library's SHA-256.
func wantNode(a, b api.Hash) api.Hash { return sum([]byte{1}, a[:], b[:]) }

// wantMTH: the definition of the document, of leaves by their hashes.
func wantMTH(d []api.Hash) api.Hash {
	switch len(d) {
	case 0:
		return sum()
	case 1:
		return d[0]
	}
	k := 1
	for 2*k < len(d) {
		k *= 2
	}
	return wantNode(wantMTH(d[:k]), wantMTH(d[k:]))
}

// wantFold: the hashes folded from the right; of none what MTH is of no leaves.
func wantFold(hashes []api.Hash) api.Hash {
	if len(hashes) == 0 {
		return sum()
	}
	if len(hashes) == 1 {
		return hashes[0]
	}
	return wantNode(hashes[0], wantFold(hashes[1:]))
}

// wantOnes: the digits of a number, divided off one by one.
func wantOnes(n uint64) int {
	ones := 0
	for ; n > 0; n /= 2 {
		ones += int(n % 2)
	}
	return ones
}

// wantHashes: of so many leaves as few whole trees as can be, from the left: the greatest each time that begins there and ends among the leaves.
func wantHashes(leaves []api.Hash) []api.Hash {
	var all []api.Hash
	for at := 0; at < len(leaves); {
		width := 1
		for at%(2*width) == 0 && 2*width <= len(leaves)-at {
			width *= 2
		}
		all = append(all, wantMTH(leaves[at:at+width]))
		at += width
	}
	return all
}

// wantTold: of the last of these leaves, level by level, the whole tree of that level that ends with it, if it does.
func wantTold(leaves []api.Hash) []api.Node {
	var all []api.Node
	n := len(leaves)
	for level := 0; 1<<level <= n; level++ {
		if n%(1<<level) == 0 {
			all = append(all, node(level, uint64(n>>level)-1, wantMTH(leaves[n-1<<level:])))
		}
	}
	return all
}

func node(level int, index uint64, h api.Hash) api.Node {
	return api.Node{Coord: api.Coord{Level: uint8(level), Index: index}, Hash: h}
}

// someHashes: so many, no two the same.
func someHashes(count int) []api.Hash {
	rnd := rand.New(rand.NewSource(10))
	all := make([]api.Hash, count)
	for i := range all {
		rnd.Read(all[i][:])
	}
	return all
}

func add(t *testing.T, b *emit.Builder, h api.Hash) []api.Node {
	t.Helper()
	size := b.Size()
	told, err := b.Add(h)
	if err != nil {
		t.Fatalf("Add at %d: %v", size, err)
	}
	return told
}

// added: the builder to which these were added, one by one.
func added(t *testing.T, leaves ...api.Hash) *emit.Builder {
	t.Helper()
	b := emit.New()
	addAll(t, b, leaves)
	return b
}

func addAll(t *testing.T, b *emit.Builder, leaves []api.Hash) {
	t.Helper()
	for _, h := range leaves {
		add(t, b, h)
	}
}

func loaded(t *testing.T, size uint64, hashes []api.Hash) *emit.Builder {
	t.Helper()
	b, err := emit.Load(size, hashes)
	if b == nil || err != nil {
		t.Fatalf("Load(%d, %d hashes) = %v, %v", size, len(hashes), b, err)
	}
	return b
}

// loadedOf: the builder of these leaves, loaded.
func loadedOf(t *testing.T, leaves []api.Hash) *emit.Builder {
	t.Helper()
	return loaded(t, uint64(len(leaves)), wantHashes(leaves))
}

func checkTold(t *testing.T, what string, got, want []api.Node) {
	t.Helper()
	if !slices.Equal(got, want) {
		t.Fatalf("%s: told is %v, want %v", what, got, want)
	}
}

// checkBuilder: of that size, with these hashes, and the root that follows.
func checkBuilder(t *testing.T, what string, b *emit.Builder, size uint64, hashes []api.Hash) {
	t.Helper()
	if got := b.Size(); got != size {
		t.Fatalf("%s: Size = %d, want %d", what, got, size)
	}
	if got := b.Hashes(); !slices.Equal(got, hashes) {
		t.Fatalf("%s: Hashes = %x, want %x", what, got, hashes)
	}
	if got, want := b.Root(), wantFold(hashes); got != want {
		t.Fatalf("%s: Root = %x, want %x", what, got, want)
	}
}

// checkLeaves: it is of these leaves in all that it tells.
func checkLeaves(t *testing.T, what string, b *emit.Builder, leaves []api.Hash) {
	t.Helper()
	checkBuilder(t, what, b, uint64(len(leaves)), wantHashes(leaves))
	if got, want := b.Root(), wantMTH(leaves); got != want {
		t.Fatalf("%s: Root = %x, want %x", what, got, want)
	}
}

func checkNoLoad(t *testing.T, size uint64, hashes []api.Hash, want error) {
	t.Helper()
	what := fmt.Sprintf("Load(%d, %d hashes)", size, len(hashes))
	b, err := emit.Load(size, hashes)
	checkOnly(t, what, err, want)
	if b != nil {
		t.Fatalf("%s answers a builder beside an error", what)
	}
}

// checkNoAdd: it is refused, nothing is told, and the builder stays as it is.
func checkNoAdd(t *testing.T, b *emit.Builder, h api.Hash, want error) {
	t.Helper()
	size, hashes, root := b.Size(), b.Hashes(), b.Root()
	what := fmt.Sprintf("Add at %d", size)
	told, err := b.Add(h)
	checkOnly(t, what, err, want)
	if len(told) != 0 {
		t.Fatalf("%s tells %v beside an error", what, told)
	}
	if b.Size() != size || !slices.Equal(b.Hashes(), hashes) || b.Root() != root {
		t.Fatalf("%s: it was refused, and has changed the builder", what)
	}
}

// The chapter's examples.

var la, lb, lc, ld = hash.Leaf("a"), hash.Leaf("b"), hash.Leaf("c"), hash.Leaf("d")

func TestExampleOfAdd(t *testing.T) {
	ab, cd := hash.Node(la, lb), hash.Node(lc, ld)
	b := emit.New()
	checkTold(t, "A", add(t, b, la), []api.Node{node(0, 0, la)})
	checkTold(t, "B", add(t, b, lb), []api.Node{node(0, 1, lb), node(1, 0, ab)})
	checkTold(t, "C", add(t, b, lc), []api.Node{node(0, 2, lc)})
	checkBuilder(t, "behind three", b, 3, []api.Hash{ab, lc})
	if b.Root() != hash.Node(ab, lc) {
		t.Error("the root behind three")
	}
	checkTold(t, "D", add(t, b, ld), []api.Node{node(0, 3, ld), node(1, 1, cd), node(2, 0, hash.Node(ab, cd))})
}

func TestExampleOfNew(t *testing.T) {
	b := emit.New()
	checkBuilder(t, "New", b, 0, nil)
	if b.Root() != hash.Empty() {
		t.Error("the root of no leaves")
	}
}

func TestExamplesOfLoad(t *testing.T) {
	x := api.Hash{1}
	cd := hash.Node(lc, ld)
	b := loaded(t, 3, []api.Hash{x, lc})
	checkTold(t, "D", add(t, b, ld), []api.Node{node(0, 3, ld), node(1, 1, cd), node(2, 0, hash.Node(x, cd))})
	checkBuilder(t, "behind D", b, 4, []api.Hash{hash.Node(x, cd)})
	checkNoLoad(t, 3, []api.Hash{x}, api.ErrArg)
	checkNoLoad(t, 0, []api.Hash{x}, api.ErrArg)
	checkBuilder(t, "Load(0, none)", loaded(t, 0, nil), 0, nil)
	checkNoLoad(t, mostLeaves+1, []api.Hash{x, x}, api.ErrRange)
	checkNoAdd(t, loaded(t, mostLeaves, []api.Hash{x}), la, api.ErrLimit)
	checkNoAdd(t, nil, la, api.ErrNil)
}

// P10.1

func TestNew(t *testing.T) {
	one, other := emit.New(), emit.New()
	if one == nil || other == nil || one == other {
		t.Fatal("New answers no builder of its own")
	}
	checkLeaves(t, "New", one, nil)
	checkTold(t, "the first leaf", add(t, one, la), []api.Node{node(0, 0, la)})
	checkLeaves(t, "New and a leaf", one, []api.Hash{la})
	checkLeaves(t, "another one", other, nil)
}

// checkLoads: Load of the size with as many hashes as it needs, and with other numbers of them.
func checkLoads(t *testing.T, size uint64) {
	t.Helper()
	count := wantOnes(size)
	hashes := someHashes(count + 3)
	checkBuilder(t, fmt.Sprintf("Load(%d)", size), loaded(t, size, hashes[:count]), size, hashes[:count])
	for n := range hashes {
		if n != count {
			checkNoLoad(t, size, hashes[:n], api.ErrArg)
		}
	}
}

// greatSizes: around each power of two, up to the greatest size.
func greatSizes() []uint64 {
	var all []uint64
	for level := 2; level < 63; level++ {
		all = append(all, 1<<level-1, 1<<level, 1<<level+1)
	}
	return append(all, 3<<61, 5<<60, 0x5555_5555_5555_5555, 0x2aaa_aaaa_aaaa_aaaa, mostLeaves-2, mostLeaves-1, mostLeaves)
}

func TestLoadOfEachSmallSize(t *testing.T) {
	for size := range uint64(300) {
		checkLoads(t, size)
	}
}

func TestLoadOfGreatSizes(t *testing.T) {
	for _, size := range greatSizes() {
		checkLoads(t, size)
	}
}

func TestLoadOfNoLeaves(t *testing.T) {
	for _, none := range [][]api.Hash{nil, {}, make([]api.Hash, 0, 9)} {
		b := loaded(t, 0, none)
		checkLeaves(t, "Load(0)", b, nil)
		checkTold(t, "the first leaf", add(t, b, la), []api.Node{node(0, 0, la)})
		checkLeaves(t, "Load(0) and a leaf", b, []api.Hash{la})
	}
	checkNoLoad(t, 0, []api.Hash{{}}, api.ErrArg)
	for _, size := range []uint64{1, 2, 3, 1 << 32, mostLeaves - 1, mostLeaves} {
		checkNoLoad(t, size, nil, api.ErrArg)
		checkNoLoad(t, size, []api.Hash{}, api.ErrArg)
	}
}

// A size that may not be is told ahead of a number of hashes that is wrong: with it any number is.
func TestLoadOfSizesThatMayNotBe(t *testing.T) {
	for _, size := range []uint64{mostLeaves + 1, mostLeaves + 2, mostLeaves + 3, mostLeaves + 1<<32, 3 << 62, greatest - 1, greatest} {
		for _, count := range []int{0, 1, 2, 3, 62, 63, 64, 65, 100} {
			checkNoLoad(t, size, someHashes(count), api.ErrRange)
		}
	}
}

// No hash is asked what it is: zero ones, and the same again and again, are loaded like others.
func TestLoadOfAnyHashes(t *testing.T) {
	zero := make([]api.Hash, 3)
	b := loaded(t, 7, zero)
	checkBuilder(t, "zero hashes", b, 7, zero)
	first := wantNode(zero[2], la)
	second := wantNode(zero[1], first)
	all := wantNode(zero[0], second)
	checkTold(t, "behind zero hashes", add(t, b, la), []api.Node{node(0, 7, la), node(1, 3, first), node(2, 1, second), node(3, 0, all)})
	checkBuilder(t, "zero hashes and a leaf", b, 8, []api.Hash{all})
	same := []api.Hash{la, la}
	checkBuilder(t, "the same twice", loaded(t, 3, same), 3, same)
}

// P10.2

func TestAddLeafByLeaf(t *testing.T) {
	const most = 600
	leaves := someHashes(most)
	b := emit.New()
	for n := range leaves {
		checkLeaves(t, fmt.Sprintf("%d leaves", n), b, leaves[:n])
		checkTold(t, fmt.Sprintf("the leaf %d", n), add(t, b, leaves[n]), wantTold(leaves[:n+1]))
	}
	checkLeaves(t, "all", b, leaves)
}

func TestAddBehindALoadOfEachSmallSize(t *testing.T) {
	const most = 90
	leaves := someHashes(most)
	for size := range most {
		b := loadedOf(t, leaves[:size])
		for n := size; n < most; n++ {
			what := fmt.Sprintf("loaded at %d, the leaf %d", size, n)
			checkTold(t, what, add(t, b, leaves[n]), wantTold(leaves[:n+1]))
			checkLeaves(t, what, b, leaves[:n+1])
		}
	}
}

// A hash is not asked what it is: the zero one is a leaf's like others.
func TestAddOfAnyHash(t *testing.T) {
	leaves := make([]api.Hash, 40)
	b := emit.New()
	for n := range leaves {
		checkTold(t, fmt.Sprintf("the zero leaf %d", n), add(t, b, api.Hash{}), wantTold(leaves[:n+1]))
		checkLeaves(t, "zero leaves", b, leaves[:n+1])
	}
}

// keeper is a second way: whole trees by where they stand, and what a leaf makes whole looked up among them.
type keeper struct {
	size  uint64
	trees map[api.Coord]api.Hash
}

// keeperOf: of so many leaves, whose whole trees, from the left, have these hashes.
func keeperOf(size uint64, hashes []api.Hash) *keeper {
	k := &keeper{size: size, trees: map[api.Coord]api.Hash{}}
	begin := uint64(0)
	for level := 63; level >= 0; level-- {
		if size&(1<<level) != 0 {
			k.trees[api.Coord{Level: uint8(level), Index: begin >> level}] = hashes[0]
			hashes = hashes[1:]
			begin += 1 << level
		}
	}
	return k
}

func (k *keeper) add(h api.Hash) []api.Node {
	all := []api.Node{node(0, k.size, h)}
	k.size++
	for {
		n := all[len(all)-1]
		k.trees[n.Coord] = n.Hash
		if n.Coord.Index%2 == 0 {
			return all
		}
		left := k.trees[api.Coord{Level: n.Coord.Level, Index: n.Coord.Index - 1}]
		all = append(all, node(int(n.Coord.Level)+1, n.Coord.Index/2, wantNode(left, n.Hash)))
	}
}

func (k *keeper) hashes() []api.Hash {
	var all []api.Hash
	begin := uint64(0)
	for level := 63; level >= 0; level-- {
		if k.size&(1<<level) != 0 {
			all = append(all, k.trees[api.Coord{Level: uint8(level), Index: begin >> level}])
			begin += 1 << level
		}
	}
	return all
}

func TestAddBehindALoadOfGreatSizes(t *testing.T) {
	leaves := someHashes(20)
	for _, size := range greatSizes() {
		hashes := someHashes(wantOnes(size))
		b, k := loaded(t, size, hashes), keeperOf(size, hashes)
		for _, h := range leaves {
			if k.size == mostLeaves {
				checkNoAdd(t, b, h, api.ErrLimit)
				break
			}
			what := fmt.Sprintf("loaded at %d, the leaf %d", size, k.size)
			checkTold(t, what, add(t, b, h), k.add(h))
			checkBuilder(t, what, b, k.size, k.hashes())
		}
	}
}

// The last leaf that may be makes 63 trees whole, and the last one is of all.
func TestAddTheLastLeaf(t *testing.T) {
	hashes := someHashes(64)
	b := loaded(t, mostLeaves-1, hashes[:63])
	top := hashes[63]
	want := []api.Node{node(0, mostLeaves-1, top)}
	for level := 1; level <= 63; level++ {
		top = wantNode(hashes[63-level], top)
		want = append(want, node(level, 1<<(63-level)-1, top))
	}
	checkTold(t, "the last leaf", add(t, b, hashes[63]), want)
	checkBuilder(t, "all leaves", b, mostLeaves, []api.Hash{top})
	for range 3 {
		checkNoAdd(t, b, la, api.ErrLimit)
		checkNoAdd(t, b, api.Hash{}, api.ErrLimit)
	}
	checkBuilder(t, "all leaves, still", b, mostLeaves, []api.Hash{top})
	again := loaded(t, b.Size(), b.Hashes())
	checkNoAdd(t, again, la, api.ErrLimit)
	checkBuilder(t, "all leaves, loaded", again, mostLeaves, []api.Hash{top})
}

func TestAddUpToTheEnd(t *testing.T) {
	hashes := someHashes(62)
	b := loaded(t, mostLeaves-2, hashes)
	checkTold(t, "the last but one", add(t, b, la), []api.Node{node(0, mostLeaves-2, la)})
	checkBuilder(t, "one is left", b, mostLeaves-1, append(slices.Clone(hashes), la))
	if told := add(t, b, lb); len(told) != 64 || told[1].Hash != wantNode(la, lb) {
		t.Errorf("the last one tells %d nodes", len(told))
	}
	checkNoAdd(t, b, lc, api.ErrLimit)
}

// P10.3

func TestRootIsFoldedFromTheRight(t *testing.T) {
	h := someHashes(63)
	for _, s := range []struct {
		size uint64
		want api.Hash
	}{
		{0, sum()},
		{1, h[0]},
		{1 << 40, h[0]},
		{mostLeaves, h[0]},
		{3, wantNode(h[0], h[1])},
		{1<<40 + 1, wantNode(h[0], h[1])},
		{7, wantNode(h[0], wantNode(h[1], h[2]))},
		{1<<40 + 1<<20 + 1, wantNode(h[0], wantNode(h[1], h[2]))},
		{15, wantNode(h[0], wantNode(h[1], wantNode(h[2], h[3])))},
		{mostLeaves - 1, wantFold(h)},
	} {
		if got := loaded(t, s.size, h[:wantOnes(s.size)]).Root(); got != s.want {
			t.Errorf("the root of %d leaves is %x, want %x", s.size, got, s.want)
		}
	}
}

// To ask is to change nothing, whatever is asked, and how often.
func TestAskedAgainAndAgain(t *testing.T) {
	leaves := someHashes(50)
	asked, quiet := emit.New(), emit.New()
	for n, h := range leaves {
		for range 3 {
			checkLeaves(t, "asked often", asked, leaves[:n])
		}
		checkTold(t, "asked often", add(t, asked, h), add(t, quiet, h))
	}
	checkLeaves(t, "never asked", quiet, leaves)
}

// R3

func checkNotThere(t *testing.T, b *emit.Builder) {
	t.Helper()
	tell := func() {
		if n, h, r := b.Size(), b.Hashes(), b.Root(); n != 0 || len(h) != 0 || r != (api.Hash{}) {
			t.Errorf("a builder that is not there tells %d, %v, %x", n, h, r)
		}
	}
	tell()
	for _, h := range []api.Hash{{}, la, lb} {
		checkNoAdd(t, b, h, api.ErrNil)
	}
	tell()
}

func TestABuilderThatIsNotThere(t *testing.T) { checkNotThere(t, nil) }

func TestABuilderThatNoCallMade(t *testing.T) {
	checkNotThere(t, &emit.Builder{})
	checkNotThere(t, new(emit.Builder))
	var b emit.Builder
	checkNotThere(t, &b)
}

// R5

func TestTwoBuilders(t *testing.T) {
	ones, others := someHashes(40), someHashes(80)[40:]
	one, other := emit.New(), emit.New()
	for i := range ones {
		checkTold(t, "the one", add(t, one, ones[i]), wantTold(ones[:i+1]))
		checkLeaves(t, "the other one", other, others[:i])
		checkTold(t, "the other one", add(t, other, others[i]), wantTold(others[:i+1]))
		checkLeaves(t, "the one", one, ones[:i+1])
	}
}

// R4

// mark stands in no answer.
var mark = api.Hash{0xee, 0xee}

func writeOver(l []api.Hash) {
	room := l[:cap(l)]
	for i := range room {
		room[i] = mark
	}
}

func writeOverNodes(l []api.Node) {
	room := l[:cap(l)]
	for i := range room {
		room[i] = node(99, 99, mark)
	}
}

func TestHashesAreNewMemory(t *testing.T) {
	const most = 40
	leaves := someHashes(most)
	for n := range most {
		b := added(t, leaves[:n]...)
		first, second := b.Hashes(), b.Hashes()
		writeOver(first)
		if !slices.Equal(second, wantHashes(leaves[:n])) || slices.Contains(second[:cap(second)], mark) {
			t.Fatal("two answers share memory")
		}
		checkLeaves(t, "written over", b, leaves[:n])
		addAll(t, b, leaves[n:])
		if !slices.Equal(second, wantHashes(leaves[:n])) {
			t.Fatal("an answer has changed by later leaves")
		}
		checkLeaves(t, "written over, and on", b, leaves)
	}
}

func TestWhatIsToldIsNewMemory(t *testing.T) {
	const most = 70
	leaves := someHashes(most)
	b := emit.New()
	var all [][]api.Node
	for n, h := range leaves {
		before := b.Hashes()
		told := add(t, b, h)
		all = append(all, slices.Clone(told))
		writeOverNodes(told)
		checkLeaves(t, "what was told is written over", b, leaves[:n+1])
		if !slices.Equal(before, wantHashes(leaves[:n])) {
			t.Fatal("the hashes that were answered ahead have changed")
		}
	}
	for n, told := range all {
		checkTold(t, "beside what was written over", told, wantTold(leaves[:n+1]))
	}
}

// What was told stays, with its spare room, whatever is told later.
func TestWhatWasToldStays(t *testing.T) {
	leaves := someHashes(70)
	b := emit.New()
	var all, rooms [][]api.Node
	for _, h := range leaves {
		told := add(t, b, h)
		all, rooms = append(all, told), append(rooms, slices.Clone(told[:cap(told)]))
	}
	for n, told := range all {
		checkTold(t, "later", told, wantTold(leaves[:n+1]))
		checkTold(t, "later, with its spare room", told[:cap(told)], rooms[n])
	}
	for n, told := range all {
		writeOverNodes(told)
		for later, other := range all[n+1:] {
			checkTold(t, "beside another one", other, wantTold(leaves[:n+later+2]))
		}
	}
}

func TestLoadKeepsTheContent(t *testing.T) {
	const most = 40
	leaves := someHashes(most)
	for n := range most {
		given := wantHashes(leaves[:n])
		room := append(slices.Clone(given), someHashes(8)...)
		before := slices.Clone(room)
		b := loaded(t, uint64(n), room[:len(given)])
		writeOver(b.Hashes())
		addAll(t, b, leaves[n:])
		if !slices.Equal(room, before) {
			t.Fatal("what was handed to Load was changed, or its spare room")
		}
		b = loaded(t, uint64(n), room[:len(given)])
		writeOver(room)
		checkLeaves(t, "what was handed in is written over", b, leaves[:n])
		addAll(t, b, leaves[n:])
		checkLeaves(t, "what was handed in is written over, and on", b, leaves)
	}
}

func TestARefusedLoadChangesNothing(t *testing.T) {
	room := someHashes(9)
	before := slices.Clone(room)
	checkNoLoad(t, 3, room[:3], api.ErrArg)
	checkNoLoad(t, 0, room[:1], api.ErrArg)
	checkNoLoad(t, mostLeaves+1, room[:2], api.ErrRange)
	if !slices.Equal(room, before) {
		t.Fatal("what was handed to Load was changed, or its spare room")
	}
}

// P10.4

// allWhole: the whole trees of these leaves, each once, with MTH of its leaves.
func allWhole(leaves []api.Hash) map[api.Coord]api.Hash {
	all := map[api.Coord]api.Hash{}
	for level := 0; 1<<level <= len(leaves); level++ {
		for index := range len(leaves) >> level {
			begin := index << level
			all[api.Coord{Level: uint8(level), Index: uint64(index)}] = wantMTH(leaves[begin : begin+1<<level])
		}
	}
	return all
}

func TestAllThatIsToldAreTheWholeTrees(t *testing.T) {
	const most = 140
	leaves := someHashes(most)
	b := emit.New()
	told := map[api.Coord]api.Hash{}
	count := 0
	for n := 0; ; n++ {
		want := allWhole(leaves[:n])
		if count != 2*n-wantOnes(uint64(n)) || len(told) != count || len(want) != count {
			t.Fatalf("%d leaves: %d were told, %d of them apart; %d are whole", n, count, len(told), len(want))
		}
		for c, h := range want {
			if told[c] != h {
				t.Fatalf("%d leaves: the tree %v was told with %x, want %x", n, c, told[c], h)
			}
		}
		if n == most {
			return
		}
		for _, x := range add(t, b, leaves[n]) {
			told[x.Coord] = x.Hash
			count++
		}
	}
}

// Many leaves, in a second way: each tree that is told is there for the first time, may be by chapter 6, is among the leaves, and is the node of its halves, which were told ahead.
func TestAllThatIsToldOfManyLeaves(t *testing.T) {
	const most = 1<<14 + 1<<9 + 37
	leaves := someHashes(most)
	b := emit.New()
	told := map[api.Coord]api.Hash{}
	for n, h := range leaves {
		for _, x := range add(t, b, h) {
			if _, twice := told[x.Coord]; twice {
				t.Fatalf("%v is told twice", x.Coord)
			}
			if s, ok := coord.Span(x.Coord); !ok || s.End != uint64(n)+1 {
				t.Fatalf("%v is told with the leaf %d", x.Coord, n)
			}
			checkHalves(t, x, h, told)
			told[x.Coord] = x.Hash
		}
	}
	if len(told) != 2*most-wantOnes(most) {
		t.Errorf("%d nodes are told of %d leaves", len(told), most)
	}
	if b.Size() != most || b.Root() != wantMTH(leaves) {
		t.Error("the size or the root of many leaves")
	}
	checkCover(t, b, told)
}

// checkHalves: the node is the leaf, or the node of its halves.
func checkHalves(t *testing.T, x api.Node, leaf api.Hash, told map[api.Coord]api.Hash) {
	t.Helper()
	want := leaf
	if left, right, ok := coord.Children(x.Coord); ok {
		if _, there := told[left]; !there {
			t.Fatalf("%v is told ahead of its left half", x.Coord)
		}
		if _, there := told[right]; !there {
			t.Fatalf("%v is told ahead of its right half", x.Coord)
		}
		want = wantNode(told[left], told[right])
	}
	if x.Hash != want {
		t.Fatalf("%v is told with %x, want %x", x.Coord, x.Hash, want)
	}
}

// checkCover: the builder's hashes are those that were told of the trees that all leaves are by chapter 6.
func checkCover(t *testing.T, b *emit.Builder, told map[api.Coord]api.Hash) {
	t.Helper()
	cover, err := coord.Cover(api.Span{End: b.Size()})
	if err != nil {
		t.Fatal(err)
	}
	var want []api.Hash
	for _, c := range cover {
		want = append(want, told[c])
	}
	if !slices.Equal(b.Hashes(), want) {
		t.Errorf("Hashes = %x, want %x", b.Hashes(), want)
	}
}

// A builder that was loaded from another goes on as that one, and neither has to do with the other.
func TestLoadedFromAnother(t *testing.T) {
	const most = 80
	leaves := someHashes(most)
	others := someHashes(2 * most)[most:]
	for n := range most {
		one := added(t, leaves[:n]...)
		other := loaded(t, one.Size(), one.Hashes())
		third := loaded(t, one.Size(), one.Hashes())
		for at := n; at < most; at++ {
			checkTold(t, "goes on alike", add(t, other, leaves[at]), add(t, one, leaves[at]))
			checkLeaves(t, "the loaded one", other, leaves[:at+1])
			checkLeaves(t, "the one", one, leaves[:at+1])
		}
		checkLeaves(t, "one that stays", third, leaves[:n])
		mixed := slices.Concat(leaves[:n], others[n:])
		for at := n; at < most; at++ {
			checkTold(t, "goes another way", add(t, third, mixed[at]), wantTold(mixed[:at+1]))
		}
		checkLeaves(t, "the other way", third, mixed)
		checkLeaves(t, "the one, still", one, leaves)
	}
}

// Loaded anew behind each leaf: nothing but the size and the hashes is needed to go on.
func TestLoadedAnewBehindEachLeaf(t *testing.T) {
	leaves := someHashes(200)
	b := emit.New()
	for n, h := range leaves {
		b = loaded(t, b.Size(), b.Hashes())
		checkTold(t, "loaded anew", add(t, b, h), wantTold(leaves[:n+1]))
	}
	checkLeaves(t, "loaded anew", b, leaves)
}

// A builder is asked, and others are loaded from it, side by side, while nothing is done to it: none of that writes into it.
func TestAskedSideBySide(t *testing.T) {
	leaves := someHashes(40)
	b := added(t, leaves[:29]...)
	done := make(chan bool)
	for range 8 {
		go func() {
			right := true
			for range 50 {
				c, err := emit.Load(b.Size(), b.Hashes())
				if err != nil {
					right = false
					continue
				}
				for n := 29; n < 40; n++ {
					told, err := c.Add(leaves[n])
					right = right && err == nil && slices.Equal(told, wantTold(leaves[:n+1]))
				}
				right = right && c.Root() == wantMTH(leaves) && b.Root() == wantMTH(leaves[:29])
			}
			done <- right
		}()
	}
	for range 8 {
		if !<-done {
			t.Error("another answer beside other calls")
		}
	}
}
