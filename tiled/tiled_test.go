package tiled_test

import (
	"crypto/sha256"
	"errors"
	"fmt"
	"math/bits"
	"math/rand"
	"slices"
	"testing"

	"cartulary/api"
	"cartulary/hash"
	"cartulary/naive"
	"cartulary/plan"
	"cartulary/reader"
	"cartulary/store"
	"cartulary/tile"
	"cartulary/tiled"
)

const (
	mostLeaves uint64 = 1 << 63 // the greatest size that plan knows
	greatest   uint64 = 1<<64 - 1
)

// tableErrors are the errors of the document's table, in its order.
func tableErrors() []error {
	return []error{
		api.ErrNil, api.ErrArg, api.ErrInput, api.ErrLimit, api.ErrRange, api.ErrGone, api.ErrUnavailable, api.ErrDead,
		api.ErrCorrupt, api.ErrProof, api.ErrSpent, api.ErrSigned, api.ErrFork, api.ErrOld, api.ErrStopped, api.ErrScript,
	}
}

// isOnly: got is that error of the table, no other one, and tells no place; none, if none is wanted.
func isOnly(got, want error) bool {
	if want == nil {
		return got == nil
	}
	for _, e := range tableErrors() {
		if errors.Is(got, e) != (e == want) {
			return false
		}
	}
	var f *api.Fault
	return !errors.As(got, &f) || f.At == 0
}

// Logs, and what they answer.

func sum(parts ...[]byte) api.Hash { return api.Hash(sha256.Sum256(slices.Concat(parts...))) }

// wantNode: the definition of the document, with the library's SHA-256.
func wantNode(a, b api.Hash) api.Hash { return sum([]byte{1}, a[:], b[:]) }

// face is what a log by chapter 8, a log of rows and an engine have in common.
type face interface {
	Root(size uint64) (api.Hash, error)
	Path(index, size uint64) ([]api.Hash, error)
	Proof(old, size uint64) ([]api.Hash, error)
	Batch(begin, end, size uint64) ([]api.Hash, error)
}

// rows are the hashes of a log's whole trees, by their levels. They answer by the words of DOC.md what may be asked: also of logs so great that chapter 8 would be too slow, as it hashes all leaves for each answer.
type rows [][]api.Hash

func leafText(i int) string { return fmt.Sprintf("leaf %d", i) }

func rowsOf(leaves int) rows {
	row := make([]api.Hash, leaves)
	for i := range row {
		row[i] = sum([]byte{0}, []byte(leafText(i)))
	}
	var all rows
	for len(row) > 0 {
		all = append(all, row)
		above := make([]api.Hash, len(row)/2)
		for i := range above {
			above[i] = wantNode(row[2*i], row[2*i+1])
		}
		row = above
	}
	return all
}

func naiveOf(t *testing.T, leaves int) *naive.Log {
	t.Helper()
	l := naive.New()
	for i := range leaves {
		if _, err := l.Append(leafText(i)); err != nil {
			t.Fatal(err)
		}
	}
	return l
}

// split: of n leaves, n above 1, the greatest power of two below n.
func split(n uint64) uint64 { return 1 << (bits.Len64(n-1) - 1) }

func (l rows) tree(b, e uint64) api.Hash {
	n := e - b
	if n == 0 {
		return sum()
	}
	if level := bits.TrailingZeros64(n); n == 1<<level && b%n == 0 {
		return l[level][b/n]
	}
	k := split(n)
	return wantNode(l.tree(b, b+k), l.tree(b+k, e))
}

func (l rows) path(m, b, e uint64) []api.Hash {
	if e-b == 1 {
		return nil
	}
	k := split(e - b)
	if m < k {
		return append(l.path(m, b, b+k), l.tree(b+k, e))
	}
	return append(l.path(m-k, b+k, e), l.tree(b, b+k))
}

func (l rows) sub(m, b, e uint64, whole bool) []api.Hash {
	if m == e-b {
		if whole {
			return nil
		}
		return []api.Hash{l.tree(b, e)}
	}
	k := split(e - b)
	if m <= k {
		return append(l.sub(m, b, b+k, whole), l.tree(b+k, e))
	}
	return append(l.sub(m-k, b+k, e, false), l.tree(b, b+k))
}

func (l rows) batch(begin, end, b, e uint64) []api.Hash {
	if begin <= b && e <= end {
		return nil
	}
	if end <= b || e <= begin {
		return []api.Hash{l.tree(b, e)}
	}
	k := split(e - b)
	return append(l.batch(begin, end, b, b+k), l.batch(begin, end, b+k, e)...)
}

func (l rows) Root(size uint64) (api.Hash, error)          { return l.tree(0, size), nil }
func (l rows) Path(index, size uint64) ([]api.Hash, error) { return l.path(index, 0, size), nil }
func (l rows) Proof(old, size uint64) ([]api.Hash, error)  { return l.sub(old, 0, size, true), nil }
func (l rows) Batch(b, e, size uint64) ([]api.Hash, error) { return l.batch(b, e, 0, size), nil }

func tileAt(level uint8, index uint64, width int) api.Tile {
	return api.Tile{Level: level, Index: index, Width: width}
}

// query is one that can be put to a log and to an engine, with what chapter 15 plans for it.
type query struct {
	what    string
	of      func(f face) ([]api.Hash, error)
	planned func() ([]api.Part, error)
}

func askRoot(size uint64) query {
	return query{
		fmt.Sprintf("Root(%d)", size),
		func(f face) ([]api.Hash, error) {
			h, err := f.Root(size)
			if err != nil && h == (api.Hash{}) {
				return nil, err
			}
			return []api.Hash{h}, err
		},
		func() ([]api.Part, error) {
			p, err := plan.Root(size)
			return []api.Part{p}, err
		},
	}
}

func askPath(index, size uint64) query {
	return query{
		fmt.Sprintf("Path(%d, %d)", index, size),
		func(f face) ([]api.Hash, error) { return f.Path(index, size) },
		func() ([]api.Part, error) { return plan.Path(index, size) },
	}
}

func askProof(old, size uint64) query {
	return query{
		fmt.Sprintf("Proof(%d, %d)", old, size),
		func(f face) ([]api.Hash, error) { return f.Proof(old, size) },
		func() ([]api.Part, error) { return plan.Proof(old, size) },
	}
}

func askBatch(begin, end, size uint64) query {
	return query{
		fmt.Sprintf("Batch(%d, %d, %d)", begin, end, size),
		func(f face) ([]api.Hash, error) { return f.Batch(begin, end, size) },
		func() ([]api.Part, error) { return plan.Batch(begin, end, size) },
	}
}

// tiles: the query's, in a log of that size.
func (q query) tiles(t *testing.T, size uint64) []api.Tile {
	t.Helper()
	parts, err := q.planned()
	if err != nil {
		t.Fatalf("%s: the plan: %v", q.what, err)
	}
	all, err := plan.Tiles(parts, size)
	if err != nil {
		t.Fatalf("%s: the plan's tiles: %v", q.what, err)
	}
	return all
}

// allOf: all queries of that size that may be.
func allOf(size uint64) []query {
	all := []query{askRoot(size)}
	for at := range size {
		all = append(all, askPath(at, size), askProof(at+1, size))
		for end := at + 1; end <= size; end++ {
			all = append(all, askBatch(at, end, size))
		}
	}
	return all
}

// someOf: queries of that size: of the first leaves and the last ones, of those about the split and about tiles' edges, of some by chance.
func someOf(size uint64, rnd *rand.Rand) []query {
	numbers := []uint64{0, 1, 2, 127, 254, 255, 256, 257, size / 3, size / 2, size - 257, size - 256, size - 2, size - 1, size}
	if size > 1 {
		k := split(size)
		numbers = append(numbers, k-1, k, k+1)
	}
	for range 4 {
		numbers = append(numbers, rnd.Uint64()%(size+1))
	}
	numbers = slices.DeleteFunc(numbers, func(n uint64) bool { return n > size })
	slices.Sort(numbers)
	numbers = slices.Compact(numbers)
	all := []query{askRoot(size)}
	for i, at := range numbers {
		if at < size {
			all = append(all, askPath(at, size), askProof(at+1, size))
		}
		for j := i + 1; j < len(numbers); j += 1 + rnd.Intn(8) {
			all = append(all, askBatch(at, numbers[j], size))
		}
	}
	return all
}

// wrongOf: queries that an engine of that size refuses.
func wrongOf(size uint64) []query {
	var all []query
	for _, n := range []uint64{size + 1, size + 2, size + 256, 2*size + 1, api.MaxSize + 1, mostLeaves - 1, mostLeaves, mostLeaves + 1, greatest - 1, greatest} {
		all = append(all, askRoot(n), askPath(0, n), askPath(n-1, n), askPath(n, n), askProof(0, n), askProof(1, n), askProof(n, n))
		all = append(all, askBatch(0, 1, n), askBatch(0, n, n), askBatch(n-1, n, n), askBatch(n, n, n), askBatch(1, 0, n))
	}
	for _, n := range []uint64{0, 1, size / 2, size} {
		all = append(all, askProof(0, n), askBatch(0, 0, n), askBatch(n, n, n), askBatch(1, 0, n), askBatch(n+1, n, n), askBatch(greatest, greatest, n), askBatch(greatest, 0, n))
		for _, more := range []uint64{1, 2, 256, 1 << 20, mostLeaves} {
			all = append(all, askPath(n+more-1, n), askProof(n+more, n), askBatch(0, n+more, n), askBatch(n, n+more, n))
		}
		all = append(all, askPath(greatest, n), askProof(greatest, n), askBatch(0, greatest, n), askBatch(n, greatest, n))
	}
	return all
}

// Stores.

// laid is a tile with what lies by its name.
type laid struct {
	tile   api.Tile
	hashes []api.Hash
}

// tilesOf: those of the log of the first leaves, so many: by the words of chapter 11, each eighth row cut into pieces of 256.
func tilesOf(l rows, size int) []laid {
	var all []laid
	for level := 0; size>>(8*level) > 0; level++ {
		row := l[8*level][:size>>(8*level)]
		for at := 0; at < len(row); at += 256 {
			piece := row[at:min(at+256, len(row))]
			all = append(all, laid{tileAt(uint8(level), uint64(at/256), len(piece)), piece})
		}
	}
	return all
}

func nameOf(t *testing.T, x api.Tile) string {
	t.Helper()
	name, err := tile.Path(x)
	if err != nil {
		t.Fatalf("Path(%v): %v", x, err)
	}
	return name
}

func bytesOf(l []api.Hash) string {
	var b []byte
	for _, h := range l {
		b = append(b, h[:]...)
	}
	return string(b)
}

func put(t *testing.T, s *store.Store, x api.Tile, text string) {
	t.Helper()
	if err := s.Put(nameOf(t, x), text); err != nil {
		t.Fatalf("Put of %v: %v", x, err)
	}
}

func lay(t *testing.T, s *store.Store, all []laid) {
	t.Helper()
	for _, l := range all {
		put(t, s, l.tile, bytesOf(l.hashes))
	}
}

func restart(t *testing.T, s *store.Store, crash int, reads ...int) {
	t.Helper()
	if err := s.Restart(api.Trouble{Reads: reads, Crash: crash}); err != nil {
		t.Fatal(err)
	}
}

// crash: the store is dead then, and has the texts that it had.
func crash(t *testing.T, s *store.Store) {
	t.Helper()
	restart(t, s, 1)
	if err := s.Put("x", "y"); !errors.Is(err, api.ErrDead) || !s.Dead() {
		t.Fatal("the store has not crashed:", err)
	}
}

// storeOf: a store in which the tiles of the logs of these sizes lie and nothing else, both counts 0.
func storeOf(t *testing.T, l rows, sizes ...int) *store.Store {
	t.Helper()
	s, err := store.New(api.Trouble{})
	if err != nil {
		t.Fatal(err)
	}
	for _, size := range sizes {
		lay(t, s, tilesOf(l, size))
	}
	restart(t, s, 0)
	return s
}

func readerOf(t *testing.T, s *store.Store, capacity int) *reader.Reader {
	t.Helper()
	r, err := reader.New(s, capacity)
	if err != nil {
		t.Fatal(err)
	}
	return r
}

func engineOf(t *testing.T, r *reader.Reader, size uint64) *tiled.Engine {
	t.Helper()
	e, err := tiled.New(r, size)
	if e == nil || err != nil {
		t.Fatalf("New with the size %d: %v, %v", size, e, err)
	}
	return e
}

// rig is an engine with all that it stands on, and the log that it is of.
type rig struct {
	t    *testing.T
	log  face
	size uint64
	s    *store.Store
	r    *reader.Reader
	e    *tiled.Engine
}

// rigOf: an engine of the whole log over a reader of its own, with the answers by that log.
func rigOf(t *testing.T, log face, l rows, size, capacity int) *rig {
	t.Helper()
	s := storeOf(t, l, size)
	r := readerOf(t, s, capacity)
	return &rig{t, log, uint64(size), s, r, engineOf(t, r, uint64(size))}
}

// smallRig: one whose answers are by chapter 8.
func smallRig(t *testing.T, size, capacity int) *rig {
	t.Helper()
	return rigOf(t, naiveOf(t, size), rowsOf(size), size, capacity)
}

// tally is what the reader and the store count.
type tally struct{ asked, had, reads int }

func (g *rig) tally() tally {
	asked, had := g.r.Counts()
	reads, _ := g.s.Counts()
	return tally{asked, had, reads}
}

func (g *rig) checkSince(what string, before, want tally) {
	g.t.Helper()
	now := g.tally()
	if got := (tally{now.asked - before.asked, now.had - before.had, now.reads - before.reads}); got != want {
		g.t.Fatalf("%s: %d tiles asked for, %d had, %d reads; want %v", what, got.asked, got.had, got.reads, want)
	}
}

func (g *rig) checkAnswer(q query) {
	g.t.Helper()
	want, wantErr := q.of(g.log)
	if got, err := q.of(g.e); wantErr != nil || err != nil || !slices.Equal(got, want) {
		g.t.Fatalf("%s in a log of %d leaves: %x, %v; want %x, %v", q.what, g.size, got, err, want, wantErr)
	}
}

// checkCounted: the answer, and how many tiles it asks for and how many of them the cache has; each of the others is a read.
func (g *rig) checkCounted(q query, asked, had int) {
	g.t.Helper()
	before := g.tally()
	g.checkAnswer(q)
	g.checkSince(q.what, before, tally{asked, had, asked - had})
}

func (g *rig) checkNone(q query, want error, counted tally) {
	g.t.Helper()
	before := g.tally()
	if got, err := q.of(g.e); len(got) != 0 || !isOnly(err, want) {
		g.t.Fatalf("%s of an engine of the size %d: %x, %v; want %v", q.what, g.size, got, err, want)
	}
	g.checkSince(q.what, before, counted)
}

// checkKept: which of the tiles the cache has: those and no other ones. The store is restarted.
func (g *rig) checkKept(what string, all []api.Tile, want ...api.Tile) {
	g.t.Helper()
	crash(g.t, g.s) // so that what the cache has not is refused
	for _, x := range all {
		_, err := g.r.Tile(x)
		if wanted := slices.Contains(want, x); wanted && err != nil || !wanted && !errors.Is(err, api.ErrDead) {
			g.t.Fatalf("%s: the cache has %v: %v, want %v", what, x, err == nil, wanted)
		}
	}
	restart(g.t, g.s, 0)
}

// fresh: an empty cache, and a store to which that trouble is to come.
func (g *rig) fresh(reads ...int) {
	g.t.Helper()
	g.r.Forget()
	restart(g.t, g.s, 0, reads...)
}

// checkTiles: that the query asks for these tiles, each once, in this order, and for no other one. The cache has room for all of them.
func (g *rig) checkTiles(q query, want ...api.Tile) {
	g.t.Helper()
	var all []api.Tile
	for _, l := range want {
		all = append(all, l, tileAt(l.Level, l.Index^1, l.Width))
	}
	for k := range want {
		g.fresh(k + 1)
		g.checkNone(q, api.ErrUnavailable, tally{k + 1, 0, k + 1})
		g.checkKept(q.what, all, want[:k]...)
	}
	g.fresh()
	g.checkCounted(q, len(want), 0)
	g.checkKept(q.what, all, want...)
	g.checkCounted(q, len(want), len(want))
}

// The chapter's examples.

func TestExamples(t *testing.T) {
	g := smallRig(t, 300, 8)
	g.checkCounted(askPath(299, 300), 2, 0)
	g.checkCounted(askPath(299, 300), 2, 2)
	g.checkCounted(askRoot(300), 2, 2)
	g.checkCounted(askRoot(256), 1, 1)
	g.checkCounted(askRoot(0), 0, 0)
	if h, err := g.e.Root(0); h != hash.Empty() || err != nil {
		t.Errorf("Root(0) = %x, %v", h, err)
	}
	g.checkCounted(askPath(3, 4), 1, 0)
	for _, q := range []query{askPath(0, 301), askPath(4, 4), askProof(0, 4), askBatch(2, 2, 4)} {
		g.checkNone(q, api.ErrRange, tally{})
	}
}

func TestExamplesOfTiles(t *testing.T) {
	g := smallRig(t, 300, 8)
	g.checkTiles(askPath(299, 300), tileAt(0, 1, 44), tileAt(1, 0, 1))
	g.checkTiles(askRoot(300), tileAt(1, 0, 1), tileAt(0, 1, 44))
	g.checkTiles(askRoot(256), tileAt(1, 0, 1))
	g.checkTiles(askRoot(0))
	g.checkTiles(askPath(3, 4), tileAt(0, 0, 256))
}

func TestExamplesOfTrouble(t *testing.T) {
	g := smallRig(t, 300, 8)
	g.fresh(1)
	g.checkNone(askPath(3, 4), api.ErrUnavailable, tally{1, 0, 1})
	g.checkCounted(askPath(3, 4), 1, 0)
}

func TestExamplesOfNew(t *testing.T) {
	checkNoNew(t, nil, 3, api.ErrNil)
	checkNoNew(t, smallRig(t, 300, 8).r, 1048577, api.ErrLimit)
}

// P16.1

func checkNoNew(t *testing.T, r *reader.Reader, size uint64, want error) {
	t.Helper()
	if e, err := tiled.New(r, size); e != nil || !isOnly(err, want) {
		t.Fatalf("New with the size %d: %v, %v; want %v", size, e, err, want)
	}
}

func rightSizes() []uint64 {
	return []uint64{0, 1, 2, 255, 256, 257, 300, 65536, api.MaxSize - 1, api.MaxSize}
}

func wrongSizes() []uint64 {
	return []uint64{api.MaxSize + 1, api.MaxSize + 2, 2 * api.MaxSize, 1 << 32, mostLeaves - 1, mostLeaves, mostLeaves + 1, greatest - 1, greatest}
}

func TestNewOfNoReader(t *testing.T) {
	for _, size := range append(wrongSizes(), rightSizes()...) {
		zero := &reader.Reader{}
		for _, r := range []*reader.Reader{nil, zero, new(reader.Reader)} {
			checkNoNew(t, r, size, api.ErrNil)
		}
		if _, err := zero.Tile(tileAt(0, 0, 1)); !errors.Is(err, api.ErrNil) {
			t.Fatal("New makes a reader of one that no call made:", err)
		}
	}
}

func TestNewOfSizes(t *testing.T) {
	for _, log := range []int{0, 1, 300} {
		for _, capacity := range []int{0, 1, 1024} {
			g := smallRig(t, log, capacity)
			for _, size := range wrongSizes() {
				checkNoNew(t, g.r, size, api.ErrLimit)
			}
			for _, size := range rightSizes() {
				if e := engineOf(t, g.r, size); e.Size() != size {
					t.Fatalf("the engine of the size %d tells %d", size, e.Size())
				}
			}
			g.checkSince("New", tally{}, tally{})
		}
	}
}

func TestNewReadsNothing(t *testing.T) {
	g := smallRig(t, 300, 2)
	whole, narrow, above := tileAt(0, 0, 256), tileAt(0, 1, 44), tileAt(1, 0, 1)
	tiles := []api.Tile{whole, narrow, above}
	makeAll := func() {
		t.Helper()
		before := g.tally()
		for _, size := range rightSizes() {
			engineOf(t, g.r, size)
		}
		for _, size := range wrongSizes() {
			checkNoNew(t, g.r, size, api.ErrLimit)
		}
		g.checkSince("New", before, tally{})
	}
	get := func(x api.Tile, want error) {
		t.Helper()
		if _, err := g.r.Tile(x); !isOnly(err, want) {
			t.Fatalf("Tile(%v): %v, want %v", x, err, want)
		}
	}
	g.fresh(1)
	makeAll()
	get(whole, api.ErrUnavailable) // the first read is still to come
	get(whole, nil)
	get(narrow, nil)
	makeAll()
	g.checkKept("New", tiles, whole, narrow)
	get(whole, nil)
	get(narrow, nil)
	makeAll()
	get(above, nil) // the oldest one goes, which is still the same
	g.checkKept("New", tiles, narrow, above)
	crash(t, g.s)
	makeAll()
	if !g.s.Dead() {
		t.Fatal("New makes the store alive")
	}
}

// The reader is used as it is: what it has by then is had, and what the engine asks for the reader counts.
func TestTheReaderIsUsedAsItIs(t *testing.T) {
	g := smallRig(t, 300, 8)
	if _, err := g.r.Tile(tileAt(1, 0, 1)); err != nil {
		t.Fatal(err)
	}
	g.e = engineOf(t, g.r, 300)
	g.checkCounted(askPath(299, 300), 2, 1)
	g.r.Forget()
	g.checkCounted(askPath(299, 300), 2, 0)
	if asked, had := g.r.Counts(); asked != 5 || had != 1 {
		t.Errorf("Counts() = %d, %d", asked, had)
	}
}

// P16.2: Size

func TestSize(t *testing.T) {
	g := smallRig(t, 300, 8)
	check := func() {
		t.Helper()
		before := g.tally()
		if n := g.e.Size(); n != 300 {
			t.Fatalf("Size() = %d", n)
		}
		g.checkSince("Size", before, tally{})
	}
	check()
	g.checkAnswer(askRoot(4))
	check()
	g.checkNone(askRoot(301), api.ErrRange, tally{})
	check()
	g.fresh(1)
	g.checkNone(askRoot(300), api.ErrUnavailable, tally{1, 0, 1})
	check()
	crash(t, g.s)
	check()
	other := engineOf(t, g.r, 4)
	check()
	if n := other.Size(); n != 4 {
		t.Errorf("Size() = %d", n)
	}
}

// R3

func TestEnginesThatAreNotThere(t *testing.T) {
	for _, e := range []*tiled.Engine{nil, {}, new(tiled.Engine)} {
		g := smallRig(t, 300, 8)
		g.e = e
		for range 2 {
			if n := e.Size(); n != 0 {
				t.Fatalf("Size() = %d", n)
			}
			for _, size := range []uint64{0, 1, 2, 5} {
				for _, q := range allOf(size) {
					g.checkNone(q, api.ErrNil, tally{})
				}
			}
			for _, q := range append(wrongOf(0), wrongOf(300)...) {
				g.checkNone(q, api.ErrNil, tally{})
			}
		}
	}
}

// P16.2 and P16.3: the answers of chapter 8

// The logs of rows, which are held against below, answer as chapter 8 does.
func TestRowsAreChapter8(t *testing.T) {
	check := func(l *naive.Log, r rows, q query) {
		t.Helper()
		want, err := q.of(l)
		if got, _ := q.of(r); err != nil || !slices.Equal(got, want) {
			t.Fatalf("%s: %x; want %x, %v", q.what, got, want, err)
		}
	}
	l, r := naiveOf(t, 520), rowsOf(520)
	for size := range uint64(14) {
		for _, q := range allOf(size) {
			check(l, r, q)
		}
	}
	rnd := rand.New(rand.NewSource(1))
	for _, size := range []uint64{255, 256, 257, 300, 513} {
		for _, q := range someOf(size, rnd) {
			check(l, r, q)
		}
	}
}

func TestSmallLogs(t *testing.T) {
	for log := range 20 {
		for _, capacity := range []int{0, 1, 2, 1024} {
			g := smallRig(t, log, capacity)
			for size := range uint64(log + 1) {
				for _, q := range allOf(size) {
					g.checkAnswer(q)
				}
			}
		}
	}
}

func TestLogsAboutTheEdgesOfTiles(t *testing.T) {
	rnd := rand.New(rand.NewSource(2))
	for i, log := range []int{127, 128, 255, 256, 257, 300, 511, 512, 513, 700} {
		g := smallRig(t, log, []int{0, 1, 2, 3, 1024}[i%5])
		sizes := []int{0, 1, 2, 3, 5, 128, 254, 255, 256, 257, 258, 300, 511, 512, 513, log / 2, log - 1, log}
		sizes = slices.DeleteFunc(sizes, func(n int) bool { return n > log })
		slices.Sort(sizes)
		for _, size := range slices.Compact(sizes) {
			for _, q := range someOf(uint64(size), rnd) {
				g.checkAnswer(q)
			}
		}
	}
}

// All paths and proofs of a log of three tiles, of its own size and of others.
func TestAllLeavesOfALog(t *testing.T) {
	l := rowsOf(520)
	g := rigOf(t, l, l, 520, 2)
	for _, size := range []uint64{1, 64, 255, 256, 257, 300, 512, 513, 520} {
		for at := range size {
			g.checkAnswer(askPath(at, size))
			g.checkAnswer(askProof(at+1, size))
			g.checkAnswer(askBatch(at, at+1, size))
		}
	}
}

func TestRootsOfAllSizes(t *testing.T) {
	l := rowsOf(1300)
	g := rigOf(t, l, l, 1300, 1024)
	for size := range uint64(1301) {
		g.checkAnswer(askRoot(size))
	}
}

// Trees of three levels of tiles.
func TestGreatLogs(t *testing.T) {
	rnd := rand.New(rand.NewSource(3))
	l := rowsOf(140000)
	for i, log := range []int{65535, 65536, 65537, 66000, 131072, 140000} {
		g := rigOf(t, l, l, log, []int{0, 3, 1024}[i%3])
		sizes := []int{1, 256, 300, 65280, 65535, 65536, 65537, 65792, 65793, 131071, 131072, log - 1, log}
		sizes = slices.DeleteFunc(sizes, func(n int) bool { return n > log })
		slices.Sort(sizes)
		for _, size := range slices.Compact(sizes) {
			for _, q := range someOf(uint64(size), rnd) {
				g.checkAnswer(q)
			}
		}
	}
}

func TestTheGreatestLog(t *testing.T) {
	const most = api.MaxSize
	l := rowsOf(most)
	g := rigOf(t, l, l, most, 1024)
	rnd := rand.New(rand.NewSource(4))
	for _, size := range []uint64{1000, most/2 + 1, most} {
		for _, q := range someOf(size, rnd) {
			g.checkAnswer(q)
		}
	}
	for _, q := range wrongOf(most) {
		g.checkNone(q, api.ErrRange, tally{})
	}
	g.checkTiles(askRoot(most), tileAt(2, 0, 16))
	g.checkTiles(askPath(0, most), tileAt(0, 0, 256), tileAt(1, 0, 256), tileAt(2, 0, 16))
	g.log = naiveOf(t, most)
	g.checkAnswer(askPath(most-1, most))
	g.checkAnswer(askProof(700001, most-1))
}

// Root of size 0 is Empty, and nothing is read: also where nothing could be.
func TestRootOfNoLeaves(t *testing.T) {
	for _, log := range []int{0, 1, 256, 300} {
		g := smallRig(t, log, 8)
		check := func() {
			t.Helper()
			before := g.tally()
			if h, err := g.e.Root(0); h != hash.Empty() || err != nil {
				t.Fatalf("Root(0) = %x, %v", h, err)
			}
			g.checkSince("Root(0)", before, tally{})
		}
		check()
		g.fresh(1)
		check()
		crash(t, g.s)
		check()
		g.e = engineOf(t, readerOf(t, storeOf(t, nil), 0), uint64(log)) // of an empty store
		check()
	}
}

// Queries whose answers have no hash need no tile, whatever the store is like.
func TestWhatNeedsNoTile(t *testing.T) {
	g := smallRig(t, 300, 8)
	all := []query{askRoot(0), askPath(0, 1), askProof(1, 1), askProof(299, 299), askProof(300, 300), askBatch(0, 1, 1), askBatch(0, 256, 256), askBatch(0, 300, 300)}
	check := func() {
		t.Helper()
		for _, q := range all {
			g.checkCounted(q, 0, 0)
		}
	}
	check()
	g.fresh(1)
	check()
	g.checkNone(askPath(0, 2), api.ErrUnavailable, tally{1, 0, 1})
	crash(t, g.s)
	check()
}

// P16.2: what may not be

func TestWhatMayNotBe(t *testing.T) {
	for _, log := range []int{0, 1, 2, 3, 5, 255, 256, 257, 300, 513} {
		g := smallRig(t, log, 2)
		check := func() {
			t.Helper()
			for _, q := range wrongOf(uint64(log)) {
				g.checkNone(q, api.ErrRange, tally{})
			}
		}
		check()
		restart(t, g.s, 0, 1, 2, 3)
		check() // nothing is read, so nothing fails
		crash(t, g.s)
		check()
		restart(t, g.s, 0)
		g.checkAnswer(askRoot(uint64(log)))
	}
}

// All numbers up to some above the size: what may be is answered, all else refused.
func TestAllNumbersOfSmallLogs(t *testing.T) {
	for log := range uint64(8) {
		g := smallRig(t, int(log), 2)
		check := func(q query, mayBe bool) {
			t.Helper()
			if mayBe {
				g.checkAnswer(q)
			} else {
				g.checkNone(q, api.ErrRange, tally{})
			}
		}
		for size := range log + 3 {
			check(askRoot(size), size <= log)
			for a := range size + 3 {
				check(askPath(a, size), a < size && size <= log)
				check(askProof(a, size), 0 < a && a <= size && size <= log)
				for b := range size + 3 {
					check(askBatch(a, b, size), a < b && b <= size && size <= log)
				}
			}
		}
	}
}

// What is refused leaves the cache as it was, with its order.
func TestRefusedLeavesTheCache(t *testing.T) {
	g := smallRig(t, 300, 2)
	tiles := []api.Tile{tileAt(0, 0, 256), tileAt(0, 1, 44), tileAt(1, 0, 1)}
	g.checkCounted(askPath(299, 300), 2, 0)
	for _, q := range wrongOf(300) {
		g.checkNone(q, api.ErrRange, tally{})
	}
	g.checkCounted(askPath(3, 4), 1, 0) // 0/1 was the oldest and goes
	g.checkKept("what is refused", tiles, tiles[0], tiles[2])
}

// The size is taken as it is told, whatever lies in the store.
func TestASizeThatTheLogHasNot(t *testing.T) {
	l := rowsOf(300)
	g := rigOf(t, naiveOf(t, 300), l, 300, 0)
	of := func(size uint64) {
		g.e = engineOf(t, g.r, size)
		g.size = size
	}
	of(256) // whose tiles lie there, too
	for size := range uint64(257) {
		g.checkAnswer(askRoot(size))
	}
	g.checkNone(askRoot(257), api.ErrRange, tally{})
	g.checkNone(askRoot(300), api.ErrRange, tally{})
	g.checkNone(askPath(256, 300), api.ErrRange, tally{})
	of(299) // of which one tile does not
	g.checkCounted(askPath(3, 256), 1, 0)
	g.checkNone(askPath(3, 257), api.ErrCorrupt, tally{2, 0, 2})
	g.checkNone(askPath(298, 299), api.ErrCorrupt, tally{1, 0, 1})
	g.checkNone(askPath(299, 300), api.ErrRange, tally{})
	of(600)
	g.checkCounted(askPath(3, 256), 1, 0)
	g.checkNone(askRoot(256), api.ErrCorrupt, tally{1, 0, 1}) // 1/0 is two hashes wide there
	g.checkNone(askRoot(600), api.ErrCorrupt, tally{1, 0, 1})
	g.checkNone(askRoot(601), api.ErrRange, tally{})
	of(0)
	g.checkCounted(askRoot(0), 0, 0)
	g.checkNone(askRoot(1), api.ErrRange, tally{})
	g.checkNone(askPath(0, 1), api.ErrRange, tally{})
}

// P16.2 and P16.3: which tiles are asked for

// A few queries of a log of seven tiles, each of several ones.
func severalTiles() []query {
	return []query{
		askRoot(1100), askRoot(1000), askRoot(300), askRoot(257), askRoot(256), askRoot(255),
		askPath(0, 1100), askPath(300, 1100), askPath(1099, 1100), askPath(1023, 1025), askPath(767, 768),
		askProof(1, 1100), askProof(257, 1100), askProof(700, 1001), askProof(1024, 1100), askProof(1099, 1100), askProof(255, 256),
		askBatch(0, 1, 1100), askBatch(1, 1099, 1100), askBatch(300, 700, 1100), askBatch(255, 257, 1100), askBatch(511, 512, 1024),
	}
}

func TestTilesInTheirOrder(t *testing.T) {
	for _, log := range []int{1100, 1200, 1300} {
		g := smallRig(t, log, 1024)
		for _, q := range severalTiles() {
			g.checkTiles(q, q.tiles(t, uint64(log))...)
		}
	}
}

func TestTilesByTheirNumbers(t *testing.T) {
	g := smallRig(t, 1100, 1024)
	first, second, last, above := tileAt(0, 0, 256), tileAt(0, 1, 256), tileAt(0, 4, 76), tileAt(1, 0, 4)
	g.checkTiles(askRoot(1100), above, last)
	g.checkTiles(askRoot(1000), above, tileAt(0, 3, 256))
	g.checkTiles(askPath(0, 1100), first, above, last)
	g.checkTiles(askPath(0, 2), first)
	g.checkTiles(askPath(1099, 1100), last, above)
	g.checkTiles(askProof(257, 1100), second, above, last)
	g.checkTiles(askProof(1024, 1100), last)
	g.checkTiles(askBatch(1, 1099, 1100), first, last)
	g.checkTiles(askBatch(256, 512, 1100), above, last)
	g.checkTiles(askBatch(0, 1100, 1100))
}

func TestTilesOfGreatLogs(t *testing.T) {
	l := rowsOf(66000)
	g := rigOf(t, l, l, 66000, 1024)
	g.checkTiles(askRoot(66000), tileAt(2, 0, 1), tileAt(1, 1, 1), tileAt(0, 257, 208))
	g.checkTiles(askRoot(65280), tileAt(1, 0, 256))
	g.checkTiles(askPath(0, 66000), tileAt(0, 0, 256), tileAt(1, 0, 256), tileAt(1, 1, 1), tileAt(0, 257, 208))
	g.checkTiles(askPath(65999, 66000), tileAt(0, 257, 208), tileAt(1, 1, 1), tileAt(2, 0, 1))
	rnd := rand.New(rand.NewSource(5))
	for _, size := range []uint64{300, 65536, 65793, 66000} {
		for i, q := range someOf(size, rnd) {
			if i%4 == 0 {
				g.checkTiles(q, q.tiles(t, 66000)...)
			}
		}
	}
}

// A root, a path, a proof asks for as few tiles as is promised, none twice, also out of a log that is greater.
func TestHowManyTiles(t *testing.T) {
	l := rowsOf(70000)
	for _, log := range []int{1, 2, 3, 5, 255, 256, 257, 300, 513, 70000} {
		g := rigOf(t, l, l, log, 0)
		for _, size := range []uint64{1, 2, 3, 4, 5, 7, 8, 255, 256, 257, 300, 511, 513, 65537, 69999, 70000} {
			if size > uint64(log) {
				continue
			}
			most := 2 * (bits.Len64(size-1) + 1)
			for _, at := range []uint64{0, 1, 2, size / 3, size / 2, size - size/4 - 1, size - 1} {
				if at >= size {
					continue
				}
				for _, q := range []query{askRoot(size), askPath(at, size), askProof(at+1, size), askBatch(at/2, at+1, size)} {
					tiles := q.tiles(t, uint64(log))
					before := g.tally()
					g.checkAnswer(q)
					g.checkSince(q.what, before, tally{len(tiles), 0, len(tiles)})
					if len(tiles) > most && q.what[0] != 'B' {
						t.Fatalf("%s in a log of %d leaves asks for %d tiles", q.what, log, len(tiles))
					}
				}
			}
		}
	}
}

// A tile that is asked for once is read once, also where the cache keeps none.
func TestNoTileIsReadTwice(t *testing.T) {
	l := rowsOf(1100)
	g := rigOf(t, l, l, 1100, 0)
	q := askPath(255, 256) // eight trees, one tile
	for range 3 {
		g.checkCounted(q, 1, 0)
	}
	g.checkCounted(askProof(1023, 1024), 2, 0)
	g.checkCounted(askBatch(3, 1000, 1100), 3, 0)
}

// P16.2: what the tiles say is what the answers are made of

func TestWhatTheTilesSay(t *testing.T) {
	g := smallRig(t, 300, 0)
	other := rowsOf(301)[0][1:]
	put(t, g.s, tileAt(0, 1, 44), bytesOf(other[:44]))
	put(t, g.s, tileAt(1, 0, 1), bytesOf(other[99:100]))
	want := wantNode(other[99], wantNode(wantOver(other[:32]), wantNode(wantOver(other[32:40]), wantOver(other[40:44]))))
	if h, err := g.e.Root(300); h != want || err != nil {
		t.Errorf("Root(300) = %x, %v; want %x", h, err, want)
	}
	if h, err := g.e.Root(256); h != other[99] || err != nil {
		t.Errorf("Root(256) = %x, %v; want %x", h, err, other[99])
	}
	path, err := g.e.Path(299, 300)
	if want := []api.Hash{other[42], wantNode(other[40], other[41]), wantOver(other[32:40]), wantOver(other[:32]), other[99]}; err != nil || !slices.Equal(path, want) {
		t.Errorf("Path(299, 300) = %x, %v; want %x", path, err, want)
	}
	proof, err := g.e.Proof(256, 300)
	if want := []api.Hash{wantNode(wantOver(other[:32]), wantNode(wantOver(other[32:40]), wantOver(other[40:44])))}; err != nil || !slices.Equal(proof, want) {
		t.Errorf("Proof(256, 300) = %x, %v; want %x", proof, err, want)
	}
	batch, err := g.e.Batch(257, 300, 300)
	if want := []api.Hash{other[99], other[0]}; err != nil || !slices.Equal(batch, want) {
		t.Errorf("Batch(257, 300, 300) = %x, %v; want %x", batch, err, want)
	}
	g.checkAnswer(askPath(3, 256)) // whose tile is as it was
}

// wantOver: the hash of the whole tree over these.
func wantOver(l []api.Hash) api.Hash {
	if len(l) == 1 {
		return l[0]
	}
	return wantNode(wantOver(l[:len(l)/2]), wantOver(l[len(l)/2:]))
}

// P16.2 and P16.3: reads that fail

// At each of a query's reads. What was read ahead of it is had by the next query, which is answered.
func TestAReadFails(t *testing.T) {
	g := smallRig(t, 1100, 1024)
	for _, q := range severalTiles() {
		tiles := q.tiles(t, 1100)
		for k := range tiles {
			g.fresh(k + 1)
			g.checkNone(q, api.ErrUnavailable, tally{k + 1, 0, k + 1})
			g.checkCounted(q, len(tiles), k)
			g.checkCounted(q, len(tiles), len(tiles))
		}
	}
}

// Where nothing is kept the same read comes again, and the next query's reads are its own.
func TestAReadFailsWithoutACache(t *testing.T) {
	for capacity := range 2 {
		g := smallRig(t, 1100, capacity)
		for _, q := range severalTiles() {
			tiles := q.tiles(t, 1100)
			for k := range tiles {
				g.fresh(k + 1)
				g.checkNone(q, api.ErrUnavailable, tally{k + 1, 0, k + 1})
				if capacity == 0 {
					g.checkCounted(q, len(tiles), 0)
				} else {
					g.checkAnswer(q)
				}
				g.checkAnswer(q)
			}
		}
	}
}

func TestSeveralReadsFail(t *testing.T) {
	g := smallRig(t, 1100, 1024)
	q := askPath(0, 1100)
	g.fresh(1, 2, 4, 6)
	g.checkNone(q, api.ErrUnavailable, tally{1, 0, 1})
	g.checkNone(q, api.ErrUnavailable, tally{1, 0, 1})
	g.checkNone(q, api.ErrUnavailable, tally{2, 0, 2}) // the third goes through, the fourth not
	g.checkNone(q, api.ErrUnavailable, tally{3, 1, 2}) // the fifth goes through, the sixth not
	g.checkCounted(q, 3, 2)
	g.checkCounted(q, 3, 3)
}

// Whichever read fails: of that query alone ErrUnavailable is made.
func TestAnyReadFails(t *testing.T) {
	all := severalTiles()
	for _, capacity := range []int{0, 1, 3} {
		g := smallRig(t, 1100, capacity)
		for fail := 1; fail <= 50; fail += 1 + capacity {
			g.fresh(fail)
			failed := 0
			for _, q := range all {
				before := g.tally()
				got, err := q.of(g.e)
				if after := g.tally(); before.reads < fail && fail <= after.reads {
					failed++
					if len(got) != 0 || !isOnly(err, api.ErrUnavailable) || after.reads != fail {
						t.Fatalf("%s, whose read %d fails: %x, %v; %d reads", q.what, fail, got, err, after.reads)
					}
				} else if want, _ := q.of(g.log); err != nil || !slices.Equal(got, want) {
					t.Fatalf("%s, whose reads go through: %x, %v; want %x", q.what, got, err, want)
				}
			}
			if capacity == 0 && failed != 1 {
				t.Fatalf("the read %d fails, and %d queries say so", fail, failed)
			}
		}
	}
}

// P16.2: a store that is dead

// At each of a query's reads: the tiles ahead of it are in the cache.
func TestTheStoreIsDead(t *testing.T) {
	g := smallRig(t, 1100, 1024)
	for _, q := range severalTiles() {
		tiles := q.tiles(t, 1100)
		for k := range tiles {
			g.fresh()
			for _, x := range tiles[:k] {
				if _, err := g.r.Tile(x); err != nil {
					t.Fatal(err)
				}
			}
			crash(t, g.s)
			g.checkNone(q, api.ErrDead, tally{k + 1, k, 0})
			g.checkNone(q, api.ErrDead, tally{k + 1, k, 0})
			if !g.s.Dead() {
				t.Fatal("a query makes the store alive")
			}
			g.checkKept(q.what, tiles, tiles[:k]...)
			g.checkCounted(q, len(tiles), k)
		}
		crash(t, g.s)
		before := g.tally()
		g.checkAnswer(q) // out of the cache
		g.checkSince(q.what, before, tally{len(tiles), len(tiles), 0})
	}
}

// P16.2: tiles that are none

// brokenTexts: none of them is a tile of that width.
func brokenTexts(l laid) []string {
	right := bytesOf(l.hashes)
	return []string{"", right[:1], right[:len(right)-1], right[:len(right)-32], right + "x", right + right, right + right[:32]}
}

// At each of a query's reads. What was read ahead of it stays in the cache.
func TestATileIsCorrupt(t *testing.T) {
	l := rowsOf(1100)
	laidOf := func(x api.Tile) laid {
		all := tilesOf(l, 1100)
		return all[slices.IndexFunc(all, func(l laid) bool { return l.tile == x })]
	}
	g := rigOf(t, l, l, 1100, 1024)
	for i, q := range severalTiles() {
		tiles := q.tiles(t, 1100)
		for k, x := range tiles {
			for j, text := range brokenTexts(laidOf(x)) {
				if (i+j)%3 > 0 && i > 5 {
					continue
				}
				g.fresh()
				put(t, g.s, x, text)
				g.checkNone(q, api.ErrCorrupt, tally{k + 1, 0, k + 1})
				g.checkNone(q, api.ErrCorrupt, tally{k + 1, k, 1})
				g.checkKept(q.what, tiles, tiles[:k]...)
				put(t, g.s, x, bytesOf(laidOf(x).hashes))
				g.checkCounted(q, len(tiles), k)
			}
		}
	}
}

// A tile that does not lie there at all.
func TestATileIsGone(t *testing.T) {
	l := rowsOf(1100)
	for _, missing := range tilesOf(l, 1100) {
		s := storeOf(t, nil)
		for _, x := range tilesOf(l, 1100) {
			if x.tile != missing.tile {
				lay(t, s, []laid{x})
			}
		}
		r := readerOf(t, s, 1024)
		g := &rig{t, l, 1100, s, r, engineOf(t, r, 1100)}
		for _, q := range severalTiles() {
			tiles := q.tiles(t, 1100)
			g.fresh()
			if k := slices.Index(tiles, missing.tile); k >= 0 {
				g.checkNone(q, api.ErrCorrupt, tally{k + 1, 0, k + 1})
			} else {
				g.checkCounted(q, len(tiles), 0)
			}
		}
		lay(t, s, []laid{missing})
		for _, q := range severalTiles() {
			g.checkAnswer(q)
		}
	}
}

// The first error is the query's; nothing is read behind it.
func TestTheFirstErrorEndsIt(t *testing.T) {
	g := smallRig(t, 1100, 1024)
	q := askPath(0, 1100)
	tiles := q.tiles(t, 1100)
	put(t, g.s, tiles[1], "x")
	g.fresh(1)
	g.checkNone(q, api.ErrUnavailable, tally{1, 0, 1})
	g.checkNone(q, api.ErrCorrupt, tally{2, 0, 2})
	g.fresh(2)
	g.checkNone(q, api.ErrUnavailable, tally{2, 0, 2}) // it is not known yet that it is corrupt
	g.fresh(3)
	g.checkNone(q, api.ErrCorrupt, tally{2, 0, 2})
	g.checkNone(q, api.ErrUnavailable, tally{2, 1, 1})
	put(t, g.s, tiles[0], "x")
	g.checkNone(q, api.ErrCorrupt, tally{2, 1, 1}) // the first is had
	g.fresh()
	g.checkNone(q, api.ErrCorrupt, tally{1, 0, 1})
	crash(t, g.s)
	g.checkNone(q, api.ErrDead, tally{1, 0, 0})
}

// Engines over one reader.

// Of a log and of it as it was: some tiles both need, some one of them alone.
func TestEnginesOverOneReader(t *testing.T) {
	l := rowsOf(600)
	s := storeOf(t, l, 300, 600)
	r := readerOf(t, s, 8)
	old := &rig{t, naiveOf(t, 300), 300, s, r, engineOf(t, r, 300)}
	now := &rig{t, naiveOf(t, 600), 600, s, r, engineOf(t, r, 600)}
	old.checkCounted(askPath(299, 300), 2, 0)
	now.checkCounted(askPath(299, 300), 2, 0) // 0/1 and 1/0 are wider by now
	old.checkCounted(askPath(3, 256), 1, 0)
	now.checkCounted(askPath(3, 256), 1, 1)
	now.checkCounted(askPath(3, 600), 3, 2)
	old.checkCounted(askPath(299, 300), 2, 2)
	old.checkNone(askPath(3, 600), api.ErrRange, tally{})
	restart(t, s, 0, 1)
	r.Forget()
	old.checkNone(askPath(299, 300), api.ErrUnavailable, tally{1, 0, 1})
	now.checkCounted(askPath(299, 300), 2, 0)
	old.checkCounted(askPath(299, 300), 2, 0)
	if old.e.Size() != 300 || now.e.Size() != 600 {
		t.Error("one engine has the other one's size")
	}
	same := engineOf(t, r, 600)
	crash(t, s)
	now.e = same
	before := now.tally()
	now.checkAnswer(askPath(299, 300))
	now.checkSince("an engine of the same size", before, tally{2, 2, 0})
}

func TestEnginesOverTwoReadersOfOneStore(t *testing.T) {
	one := smallRig(t, 300, 8)
	r := readerOf(t, one.s, 8)
	two := &rig{t, one.log, 300, one.s, r, engineOf(t, r, 300)}
	one.checkCounted(askPath(299, 300), 2, 0)
	two.checkCounted(askPath(299, 300), 2, 0)
	one.r.Forget()
	two.checkCounted(askPath(299, 300), 2, 2)
	one.checkCounted(askPath(299, 300), 2, 0)
}

// Whoever else puts into the store or reads it: a new tile is seen as soon as it is read.
func TestALogThatGrows(t *testing.T) {
	l := rowsOf(520)
	s := storeOf(t, l)
	r := readerOf(t, s, 3)
	for _, size := range []int{1, 2, 3, 255, 256, 257, 300, 511, 512, 513, 520} {
		lay(t, s, tilesOf(l, size))
		g := &rig{t, l, uint64(size), s, r, engineOf(t, r, uint64(size))}
		for _, n := range []int{1, 2, 3, 255, 256, 257, 300, 511, 512, 513, 520} {
			if n > size {
				g.checkNone(askRoot(uint64(n)), api.ErrRange, tally{})
				continue
			}
			g.checkAnswer(askRoot(uint64(n)))
			g.checkAnswer(askPath(0, uint64(n)))
			g.checkAnswer(askProof(uint64(n), uint64(size)))
		}
	}
}

// R4

// spoil: all that a list's memory has, and what is behind its end.
func spoil(l []api.Hash) {
	l = l[:cap(l)]
	for i := range l {
		l[i] = api.Hash{0xee, byte(i)}
	}
}

func TestAnswersAreMemoryOfTheirOwn(t *testing.T) {
	for _, capacity := range []int{0, 1, 1024} {
		g := smallRig(t, 1100, capacity)
		for _, q := range severalTiles() {
			want, _ := q.of(g.log)
			var answers [][]api.Hash
			for range 3 {
				got, err := q.of(g.e)
				if err != nil {
					t.Fatalf("%s: %v", q.what, err)
				}
				answers = append(answers, got)
			}
			for i, got := range answers {
				spoil(got)
				for _, other := range answers[i+1:] {
					if !slices.Equal(other, want) {
						t.Fatalf("two answers of %s share memory", q.what)
					}
				}
			}
			g.checkAnswer(q)
		}
		for _, x := range tilesOf(rowsOf(1100), 1100) { // what the cache has and what lies in the store is what it was
			if got, err := g.r.Tile(x.tile); err != nil || !slices.Equal(got, x.hashes) {
				t.Fatalf("a query turned the tile %v: %v", x.tile, err)
			}
		}
	}
}

func TestLaterCallsTurnNoAnswer(t *testing.T) {
	g := smallRig(t, 1100, 1)
	var answers [][]api.Hash
	for _, q := range severalTiles() {
		got, err := q.of(g.e)
		if err != nil {
			t.Fatal(err)
		}
		answers = append(answers, got)
	}
	for _, x := range tilesOf(rowsOf(1100), 1100) {
		put(t, g.s, x.tile, bytesOf(slices.Repeat([]api.Hash{{9}}, x.tile.Width)))
	}
	g.r.Forget()
	for _, q := range severalTiles() {
		if _, err := q.of(g.e); err != nil {
			t.Fatal(err)
		}
	}
	for i, q := range severalTiles() {
		if want, _ := q.of(g.log); !slices.Equal(answers[i], want) {
			t.Errorf("later calls turned the answer of %s", q.what)
		}
	}
}

// R5

func TestSideBySide(t *testing.T) {
	l := rowsOf(1100)
	right := func(s *store.Store) bool {
		r, err := reader.New(s, 2)
		if err != nil {
			return false
		}
		e, err := tiled.New(r, 1100)
		if err != nil {
			return false
		}
		for range 5 {
			for _, q := range severalTiles() {
				want, _ := q.of(l)
				if got, err := q.of(e); err != nil || !slices.Equal(got, want) {
					return false
				}
			}
		}
		return true
	}
	done := make(chan bool)
	for range 8 {
		s := storeOf(t, l, 1100)
		go func() { done <- right(s) }()
	}
	for range 8 {
		if !<-done {
			t.Error("another answer beside other engines")
		}
	}
}

// Engines held against a plain one.

// plain is what a store, a reader and engines over it are by the chapters' words. Its cache is a list of tiles, the newest first.
type plain struct {
	log           face
	capacity      int
	kept          []api.Tile
	broken        map[api.Tile]bool
	trouble       api.Trouble
	reads, writes int
	dead          bool
	asked, had    int
}

func (p *plain) tile(x api.Tile) error {
	p.asked++
	if i := slices.Index(p.kept, x); i >= 0 {
		p.had++
		p.kept = slices.Insert(slices.Delete(p.kept, i, i+1), 0, x)
		return nil
	}
	if p.dead {
		return api.ErrDead
	}
	p.reads++
	if slices.Contains(p.trouble.Reads, p.reads) {
		return api.ErrUnavailable
	}
	if p.broken[x] {
		return api.ErrCorrupt
	}
	p.kept = slices.Insert(p.kept, 0, x)
	p.kept = p.kept[:min(len(p.kept), p.capacity)]
	return nil
}

func (p *plain) query(t *testing.T, q query, size uint64) ([]api.Hash, error) {
	t.Helper()
	for _, x := range q.tiles(t, size) {
		if err := p.tile(x); err != nil {
			return nil, err
		}
	}
	return q.of(p.log)
}

// put: what is behind a Put, that broke the tile or mended it.
func (p *plain) put(x api.Tile, broken bool) {
	if p.dead {
		return
	}
	p.writes++
	if p.trouble.Crash != p.writes {
		p.broken[x] = broken
	}
	p.dead = p.trouble.Crash == p.writes || p.trouble.Crash == -p.writes
}

// both are engines over one reader and a plain one, to which the same is done.
type both struct {
	t       *testing.T
	s       *store.Store
	r       *reader.Reader
	engines []*tiled.Engine
	p       *plain
}

func (b *both) query(e *tiled.Engine, q query) {
	b.t.Helper()
	want, wantErr := b.p.query(b.t, q, e.Size())
	if got, err := q.of(e); !slices.Equal(got, want) || !isOnly(err, wantErr) {
		b.t.Fatalf("%s of an engine of the size %d: %x, %v; want %x, %v", q.what, e.Size(), got, err, want, wantErr)
	}
}

func (b *both) refused(e *tiled.Engine, q query) {
	b.t.Helper()
	if got, err := q.of(e); len(got) != 0 || !isOnly(err, api.ErrRange) {
		b.t.Fatalf("%s of an engine of the size %d: %x, %v", q.what, e.Size(), got, err)
	}
}

func (b *both) check() {
	b.t.Helper()
	asked, had := b.r.Counts()
	reads, writes := b.s.Counts()
	p := b.p
	if asked != p.asked || had != p.had || reads != p.reads || writes != p.writes || b.s.Dead() != p.dead {
		b.t.Fatalf("asked, had, reads, writes, dead: %d, %d, %d, %d, %v; want %d, %d, %d, %d, %v", asked, had, reads, writes, b.s.Dead(), p.asked, p.had, p.reads, p.writes, p.dead)
	}
}

func someTrouble(rnd *rand.Rand) api.Trouble {
	x := api.Trouble{Crash: rnd.Intn(7) - 3}
	for read := 1; read < 20; read++ {
		if rnd.Intn(4) == 0 {
			x.Reads = append(x.Reads, read)
		}
	}
	return x
}

func (b *both) step(rnd *rand.Rand, all []laid) {
	b.t.Helper()
	e := b.engines[rnd.Intn(len(b.engines))]
	l := all[rnd.Intn(len(all))]
	switch rnd.Intn(16) {
	case 0:
		b.r.Forget()
		b.p.kept = nil
	case 1:
		x := someTrouble(rnd)
		if err := b.s.Restart(x); err != nil {
			b.t.Fatal(err)
		}
		b.p.trouble, b.p.reads, b.p.writes, b.p.dead = x, 0, 0, false
	case 2:
		b.s.Put(nameOf(b.t, l.tile), bytesOf(l.hashes)[1:])
		b.p.put(l.tile, true)
	case 3, 4:
		b.s.Put(nameOf(b.t, l.tile), bytesOf(l.hashes))
		b.p.put(l.tile, false)
	case 5:
		wrong := wrongOf(e.Size())
		b.refused(e, wrong[rnd.Intn(len(wrong))])
	default:
		size := 1 + rnd.Uint64()%e.Size()
		begin, end := rnd.Uint64()%size, 1+rnd.Uint64()%size
		may := []query{askRoot(size), askPath(begin, size), askProof(end, size), askBatch(min(begin, end-1), max(begin+1, end), size)}
		b.query(e, may[rnd.Intn(len(may))])
	}
	b.check()
}

func TestManyScripts(t *testing.T) {
	for _, sizes := range [][]int{{1, 3}, {256, 300}, {300, 700, 700}, {1100, 1300}, {300, 66000}} {
		l := rowsOf(slices.Max(sizes))
		var all []laid
		for _, size := range sizes {
			tiles := tilesOf(l, size)
			all = append(all, tiles[max(0, len(tiles)-6):]...)
		}
		for seed := range int64(24) {
			capacity := []int{0, 1, 2, 3, 4, 1024}[seed%6]
			s := storeOf(t, l, sizes...)
			r := readerOf(t, s, capacity)
			b := &both{t: t, s: s, r: r, p: &plain{log: l, capacity: capacity, broken: map[api.Tile]bool{}}}
			for _, size := range sizes {
				b.engines = append(b.engines, engineOf(t, r, uint64(size)))
			}
			rnd := rand.New(rand.NewSource(seed))
			for range 250 {
				b.step(rnd, all)
			}
		}
	}
}
