package engine_test

import (
	"crypto/sha256"
	"errors"
	"fmt"
	"math/bits"
	"math/rand"
	"slices"
	"testing"

	"cartulary/api"
	"cartulary/engine"
	"cartulary/hash"
	"cartulary/naive"
	"cartulary/reader"
	"cartulary/store"
	"cartulary/tile"
	"cartulary/tiled"
)

const (
	mostLeaves uint64 = 1 << 63 // the greatest size that plan knows
	greatest   uint64 = 1<<64 - 1
)

// tableErrors are the errors of the document's table, in its order.
func tableErrors() []error {
	return []error{
		api.ErrNil, api.ErrArg, api.ErrInput, api.ErrLimit, api.ErrRange, api.ErrGone, api.ErrUnavailable, api.ErrDead,
		api.ErrCorrupt, api.ErrProof, api.ErrSpent, api.ErrSigned, api.ErrFork, api.ErrOld, api.ErrStopped, api.ErrScript,
	}
}

// isOnly: got is that error of the table, no other one, and tells no place; none, if none is wanted.
func isOnly(got, want error) bool {
	if want == nil {
		return got == nil
	}
	for _, e := range tableErrors() {
		if errors.Is(got, e) != (e == want) {
			return false
		}
	}
	var f *api.Fault
	return !errors.As(got, &f) || f.At == 0
}

// Logs, and what they answer.

func sum(parts ...[]byte) api.Hash { return api.Hash(sha256.Sum256(slices.Concat(parts...))) }

// wantNode: the definition of the document, with the library's SHA-256.
func wantNode(a, b api.Hash) api.Hash { return sum([]byte{1}, a[:], b[:]) }

func wantLeaf(text string) api.Hash { return sum([]byte{0}, []byte(text)) }

// rows are the hashes of a log's whole trees, by their levels. They answer by the words of DOC.md.
type rows [][]api.Hash

func leafText(i int) string { return fmt.Sprintf("leaf %d", i) }

// leavesOf: the hashes of the first leaves, so many.
func leavesOf(leaves int) []api.Hash {
	all := make([]api.Hash, leaves)
	for i := range all {
		all[i] = wantLeaf(leafText(i))
	}
	return all
}

// rowsOver: these are the hashes of the leaves.
func rowsOver(row []api.Hash) rows {
	var all rows
	for len(row) > 0 {
		all = append(all, slices.Clone(row))
		above := make([]api.Hash, len(row)/2)
		for i := range above {
			above[i] = wantNode(row[2*i], row[2*i+1])
		}
		row = above
	}
	return all
}

func naiveOf(t *testing.T, texts ...string) *naive.Log {
	t.Helper()
	l := naive.New()
	for _, text := range texts {
		if _, err := l.Append(text); err != nil {
			t.Fatal(err)
		}
	}
	return l
}

func textsOf(leaves int) []string {
	all := make([]string, leaves)
	for i := range all {
		all[i] = leafText(i)
	}
	return all
}

// split: of n leaves, n above 1, the greatest power of two below n.
func split(n uint64) uint64 { return 1 << (bits.Len64(n-1) - 1) }

func (l rows) tree(b, e uint64) api.Hash {
	n := e - b
	if n == 0 {
		return sum()
	}
	if level := bits.TrailingZeros64(n); n == 1<<level && b%n == 0 {
		return l[level][b/n]
	}
	k := split(n)
	return wantNode(l.tree(b, b+k), l.tree(b+k, e))
}

func (l rows) path(m, b, e uint64) []api.Hash {
	if e-b == 1 {
		return nil
	}
	k := split(e - b)
	if m < k {
		return append(l.path(m, b, b+k), l.tree(b+k, e))
	}
	return append(l.path(m-k, b+k, e), l.tree(b, b+k))
}

func (l rows) sub(m, b, e uint64, whole bool) []api.Hash {
	if m == e-b {
		if whole {
			return nil
		}
		return []api.Hash{l.tree(b, e)}
	}
	k := split(e - b)
	if m <= k {
		return append(l.sub(m, b, b+k, whole), l.tree(b+k, e))
	}
	return append(l.sub(m-k, b+k, e, false), l.tree(b, b+k))
}

func (l rows) batch(begin, end, b, e uint64) []api.Hash {
	if begin <= b && e <= end {
		return nil
	}
	if end <= b || e <= begin {
		return []api.Hash{l.tree(b, e)}
	}
	k := split(e - b)
	return append(l.batch(begin, end, b, b+k), l.batch(begin, end, b+k, e)...)
}

// mayBe: whether a log of that many leaves answers the query, which is for hashes, by the words of chapter 8.
func mayBe(size uint64, q api.Query) bool {
	if q.Size > size {
		return false
	}
	switch q.Kind {
	case api.AskPath:
		return q.Index < q.Size
	case api.AskProof:
		return 1 <= q.Old && q.Old <= q.Size
	case api.AskBatch:
		return q.Begin < q.End && q.End <= q.Size
	}
	return true
}

// answer: what an engine of the first leaves, so many, has to say.
func (l rows) answer(size uint64, q api.Query) api.Answer {
	if q.Kind == api.AskSize {
		return api.Answer{Size: size}
	}
	if q.Kind < api.AskRoot || q.Kind > api.AskBatch {
		return api.Answer{Code: api.CodeMalformed}
	}
	if !mayBe(size, q) {
		return api.Answer{Code: api.CodeRange}
	}
	switch q.Kind {
	case api.AskRoot:
		return api.Answer{Hashes: []api.Hash{l.tree(0, q.Size)}}
	case api.AskPath:
		return api.Answer{Hashes: l.path(q.Index, 0, q.Size)}
	case api.AskProof:
		return api.Answer{Hashes: l.sub(q.Old, 0, q.Size, true)}
	}
	return api.Answer{Hashes: l.batch(q.Begin, q.End, 0, q.Size)}
}

func same(a, b api.Answer) bool {
	return a.Code == b.Code && a.Size == b.Size && a.Leaf == b.Leaf && slices.Equal(a.Hashes, b.Hashes)
}

// Queries.

func askSize() api.Query            { return api.Query{Kind: api.AskSize} }
func askRoot(size uint64) api.Query { return api.Query{Kind: api.AskRoot, Size: size} }
func askPath(index, size uint64) api.Query {
	return api.Query{Kind: api.AskPath, Index: index, Size: size}
}
func askProof(old, size uint64) api.Query {
	return api.Query{Kind: api.AskProof, Old: old, Size: size}
}
func askBatch(begin, end, size uint64) api.Query {
	return api.Query{Kind: api.AskBatch, Begin: begin, End: end, Size: size}
}

// allOf: all queries of that size that may be.
func allOf(size uint64) []api.Query {
	all := []api.Query{askSize(), askRoot(size)}
	for at := range size {
		all = append(all, askPath(at, size), askProof(at+1, size))
		for end := at + 1; end <= size; end++ {
			all = append(all, askBatch(at, end, size))
		}
	}
	return all
}

// numbersOf: some up to that size: the first and the last ones, those about the split and about tiles' edges, some by chance.
func numbersOf(size uint64, rnd *rand.Rand) []uint64 {
	numbers := []uint64{0, 1, 2, 127, 255, 256, 257, size / 3, size / 2, size - 257, size - 256, size - 2, size - 1, size}
	if size > 1 {
		k := split(size)
		numbers = append(numbers, k-1, k, k+1)
	}
	for range 3 {
		numbers = append(numbers, rnd.Uint64()%(size+1))
	}
	numbers = slices.DeleteFunc(numbers, func(n uint64) bool { return n > size })
	slices.Sort(numbers)
	return slices.Compact(numbers)
}

// someOf: queries of that size of such numbers.
func someOf(size uint64, rnd *rand.Rand) []api.Query {
	all := []api.Query{askRoot(size)}
	numbers := numbersOf(size, rnd)
	for i, at := range numbers {
		if at < size {
			all = append(all, askPath(at, size), askProof(at+1, size))
		}
		for j := i + 1; j < len(numbers); j += 1 + rnd.Intn(8) {
			all = append(all, askBatch(at, numbers[j], size))
		}
	}
	return all
}

// wrongOf: queries that an engine of that size refuses.
func wrongOf(size uint64) []api.Query {
	var all []api.Query
	for _, n := range []uint64{size + 1, size + 2, size + 256, 2*size + 1, api.MaxSize + 1, mostLeaves - 1, mostLeaves, mostLeaves + 1, greatest - 1, greatest} {
		all = append(all, askRoot(n), askPath(0, n), askPath(n-1, n), askPath(n, n), askProof(0, n), askProof(1, n), askProof(n, n))
		all = append(all, askBatch(0, 1, n), askBatch(0, n, n), askBatch(n-1, n, n), askBatch(n, n, n), askBatch(1, 0, n))
	}
	for _, n := range []uint64{0, 1, size / 2, size} {
		all = append(all, askProof(0, n), askBatch(0, 0, n), askBatch(n, n, n), askBatch(1, 0, n), askBatch(n+1, n, n), askBatch(greatest, greatest, n), askBatch(greatest, 0, n))
		for _, more := range []uint64{1, 2, 256, 1 << 20, mostLeaves} {
			all = append(all, askPath(n+more-1, n), askProof(n+more, n), askBatch(0, n+more, n), askBatch(n, n+more, n))
		}
		all = append(all, askPath(greatest, n), askProof(greatest, n), askBatch(0, greatest, n), askBatch(n, greatest, n))
	}
	return all
}

// spoilUnneeded: the query with the fields that its Kind does not need set to anything.
func spoilUnneeded(q api.Query, rnd *rand.Rand) api.Query {
	anything := func(n *uint64) {
		*n = []uint64{rnd.Uint64(), rnd.Uint64() % 4, greatest, mostLeaves, 0}[rnd.Intn(5)]
	}
	q.Engine = api.EngineKind(rnd.Intn(256))
	q.Leaves = [][]string{nil, {}, {"a"}, {"", "b", "leaf 0"}}[rnd.Intn(4)]
	if q.Kind < api.AskRoot || q.Kind > api.AskBatch {
		anything(&q.Size)
	}
	if q.Kind != api.AskPath {
		anything(&q.Index)
	}
	if q.Kind != api.AskProof {
		anything(&q.Old)
	}
	if q.Kind != api.AskBatch {
		anything(&q.Begin)
		anything(&q.End)
	}
	return q
}

// Stores.

// laid is a tile with what lies by its name.
type laid struct {
	tile   api.Tile
	hashes []api.Hash
}

// tilesOf: those of the log of the first leaves, so many: by the words of chapter 11, each eighth row cut into pieces of 256.
func tilesOf(l rows, size int) []laid {
	var all []laid
	for level := 0; size>>(8*level) > 0; level++ {
		row := l[8*level][:size>>(8*level)]
		for at := 0; at < len(row); at += 256 {
			piece := row[at:min(at+256, len(row))]
			all = append(all, laid{api.Tile{Level: uint8(level), Index: uint64(at / 256), Width: len(piece)}, piece})
		}
	}
	return all
}

func bytesOf(l []api.Hash) string {
	var b []byte
	for _, h := range l {
		b = append(b, h[:]...)
	}
	return string(b)
}

func put(t *testing.T, s *store.Store, x api.Tile, text string) {
	t.Helper()
	name, err := tile.Path(x)
	if err != nil {
		t.Fatalf("Path(%v): %v", x, err)
	}
	if err := s.Put(name, text); err != nil {
		t.Fatalf("Put of %v: %v", x, err)
	}
}

func restart(t *testing.T, s *store.Store, crash int, reads ...int) {
	t.Helper()
	if err := s.Restart(api.Trouble{Reads: reads, Crash: crash}); err != nil {
		t.Fatal(err)
	}
}

// crash: the store is dead then, and has the texts that it had.
func crash(t *testing.T, s *store.Store) {
	t.Helper()
	restart(t, s, 1)
	if err := s.Put("x", "y"); !errors.Is(err, api.ErrDead) || !s.Dead() {
		t.Fatal("the store has not crashed:", err)
	}
}

// storeOf: a store in which the tiles of such a log lie and nothing else, both counts 0.
func storeOf(t *testing.T, l rows, size int) *store.Store {
	t.Helper()
	s, err := store.New(api.Trouble{})
	if err != nil {
		t.Fatal(err)
	}
	for _, x := range tilesOf(l, size) {
		put(t, s, x.tile, bytesOf(x.hashes))
	}
	restart(t, s, 0)
	return s
}

func readerOf(t *testing.T, s *store.Store, capacity int) *reader.Reader {
	t.Helper()
	r, err := reader.New(s, capacity)
	if err != nil {
		t.Fatal(err)
	}
	return r
}

func tiledOf(t *testing.T, r *reader.Reader, size uint64) *tiled.Engine {
	t.Helper()
	e, err := tiled.New(r, size)
	if err != nil {
		t.Fatal(err)
	}
	return e
}

func compactOf(t *testing.T, leaves []api.Hash) engine.Engine {
	t.Helper()
	e, err := engine.Compact(leaves)
	if e == nil || err != nil {
		t.Fatalf("Compact of %d hashes: %v, %v", len(leaves), e, err)
	}
	return e
}

// Engines.

// direct: what the engine's own call answers, AskSize aside.
func direct(e engine.Engine, q api.Query) ([]api.Hash, error) {
	switch q.Kind {
	case api.AskPath:
		return e.Path(q.Index, q.Size)
	case api.AskProof:
		return e.Proof(q.Old, q.Size)
	case api.AskBatch:
		return e.Batch(q.Begin, q.End, q.Size)
	}
	h, err := e.Root(q.Size)
	if err != nil && h == (api.Hash{}) {
		return nil, err
	}
	return []api.Hash{h}, err
}

// checkDirect: the engine's own call, with just that error.
func checkDirect(t *testing.T, name string, e engine.Engine, q api.Query, want []api.Hash, wantErr error) {
	t.Helper()
	if got, err := direct(e, q); !slices.Equal(got, want) || !isOnly(err, wantErr) {
		t.Fatalf("%s, the call of %+v: %x, %v; want %x, %v", name, q, got, err, want, wantErr)
	}
}

func checkAsk(t *testing.T, name string, e engine.Engine, q api.Query, want api.Answer) {
	t.Helper()
	if got := engine.Ask(e, q); !same(got, want) {
		t.Fatalf("%s, %+v: %+v; want %+v", name, q, got, want)
	}
}

// checkBoth: what is asked by Ask, and of the engine itself, where nothing fails.
func checkBoth(t *testing.T, name string, e engine.Engine, q api.Query, want api.Answer) {
	t.Helper()
	checkAsk(t, name, e, q, want)
	switch {
	case q.Kind == api.AskSize:
		if n := e.Size(); n != want.Size {
			t.Fatalf("%s: Size() = %d, want %d", name, n, want.Size)
		}
	case want.Code == api.CodeOK:
		checkDirect(t, name, e, q, want.Hashes, nil)
	case want.Code == api.CodeRange:
		checkDirect(t, name, e, q, nil, api.ErrRange)
	}
}

const (
	byNaive = iota
	byCompact
	byTiled
)

// trio are the three engines of one log, with all that the last one stands on.
type trio struct {
	t       *testing.T
	l       rows
	size    uint64
	log     *naive.Log
	s       *store.Store
	r       *reader.Reader
	engines [3]engine.Engine
}

func trioOver(t *testing.T, texts []string, l rows, capacity int) *trio {
	t.Helper()
	size := len(texts)
	g := &trio{t: t, l: l, size: uint64(size), log: naiveOf(t, texts...), s: storeOf(t, l, size)}
	g.r = readerOf(t, g.s, capacity)
	var leaves []api.Hash
	if size > 0 {
		leaves = slices.Clone(l[0][:size])
	}
	g.engines = [3]engine.Engine{engine.Naive(g.log), compactOf(t, leaves), engine.Tiled(tiledOf(t, g.r, g.size))}
	return g
}

func trioOf(t *testing.T, size, capacity int) *trio {
	t.Helper()
	return trioOver(t, textsOf(size), rowsOver(leavesOf(size)), capacity)
}

func nameOf(kind int) string { return []string{"Naive", "Compact", "Tiled"}[kind] }

func (g *trio) want(q api.Query) api.Answer { return g.l.answer(g.size, q) }

// check: all three answer as the definitions say.
func (g *trio) check(q api.Query) {
	g.t.Helper()
	want := g.want(q)
	for i, e := range g.engines {
		checkBoth(g.t, fmt.Sprintf("%s of %d leaves", nameOf(i), g.size), e, q, want)
	}
}

// checkTiled: what the one out of tiles answers.
func (g *trio) checkTiled(q api.Query, want api.Answer) {
	g.t.Helper()
	checkAsk(g.t, fmt.Sprintf("Tiled of %d leaves", g.size), g.engines[byTiled], q, want)
}

// readsOf: how many reads of the store the query makes, whose answer is right. The cache is empty ahead of it.
func (g *trio) readsOf(q api.Query) int {
	g.t.Helper()
	g.fresh()
	g.checkTiled(q, g.want(q))
	return g.reads()
}

func (g *trio) reads() int {
	n, _ := g.s.Counts()
	return n
}

// fresh: an empty cache, and a store to which that trouble is to come.
func (g *trio) fresh(reads ...int) {
	g.t.Helper()
	g.r.Forget()
	restart(g.t, g.s, 0, reads...)
}

// The chapter's examples.

func TestExamples(t *testing.T) {
	a, b, c := hash.Leaf("a"), hash.Leaf("b"), hash.Leaf("c")
	ok := func(l ...api.Hash) api.Answer { return api.Answer{Code: api.CodeOK, Hashes: l} }
	out, no := api.Answer{Code: api.CodeRange}, api.Answer{Code: api.CodeMalformed}
	for _, capacity := range []int{0, 1, 1024} {
		g := trioOver(t, []string{"a", "b", "c"}, rowsOver([]api.Hash{a, b, c}), capacity)
		for i, e := range g.engines {
			for _, x := range []struct {
				q    api.Query
				want api.Answer
			}{
				{askSize(), api.Answer{Code: api.CodeOK, Size: 3}},
				{askRoot(0), ok(hash.Empty())},
				{askRoot(3), ok(hash.Node(hash.Node(a, b), c))},
				{askPath(0, 3), ok(b, c)},
				{askProof(2, 3), ok(c)},
				{askBatch(0, 2, 3), ok(c)},
				{askPath(3, 3), out},
				{askRoot(4), out},
				{askProof(0, 3), out},
				{askBatch(2, 2, 3), out},
				{api.Query{Kind: api.AskNone}, no},
				{api.Query{Kind: api.AskLeaf}, no},
				{api.Query{Kind: api.AskAppend}, no},
				{api.Query{Kind: 99}, no},
			} {
				checkAsk(t, nameOf(i), e, x.q, x.want)
			}
		}
	}
}

func TestExamplesOfEnginesThatAreNotThere(t *testing.T) {
	no := api.Answer{Code: api.CodeMalformed}
	for _, q := range []api.Query{askSize(), askRoot(0), askRoot(3), askPath(0, 3), askProof(2, 3), askBatch(0, 2, 3), {}, {Kind: 99}} {
		checkAsk(t, "no engine", nil, q, no)
	}
	checkAsk(t, "Naive(nil)", engine.Naive(nil), askRoot(0), no)
	checkAsk(t, "Naive(nil)", engine.Naive(nil), askSize(), api.Answer{Code: api.CodeOK, Size: 0})
}

func TestExamplesOfTrouble(t *testing.T) {
	g := trioOver(t, []string{"a", "b", "c"}, rowsOver([]api.Hash{hash.Leaf("a"), hash.Leaf("b"), hash.Leaf("c")}), 4)
	restart(t, g.s, 0, 1)
	g.checkTiled(askRoot(3), api.Answer{Code: api.CodeUnavailable})
	g.checkTiled(askRoot(3), engine.Ask(g.engines[byNaive], askRoot(3)))
}

// P17.1: Naive

// sameCall: both answer the query alike, the engine and whoever it is of, in error too.
func sameCall(t *testing.T, name string, e, of engine.Engine, q api.Query) {
	t.Helper()
	want, wantErr := direct(of, q)
	got, err := direct(e, q)
	if e.Size() != of.Size() || !slices.Equal(got, want) || (err == nil) != (wantErr == nil) {
		t.Fatalf("%s, %+v: %x, %v; want %x, %v", name, q, got, err, want, wantErr)
	}
	for _, x := range tableErrors() {
		if errors.Is(err, x) != errors.Is(wantErr, x) {
			t.Fatalf("%s, %+v: %v; want %v", name, q, err, wantErr)
		}
	}
}

func TestNaiveAnswersAsItsLog(t *testing.T) {
	rnd := rand.New(rand.NewSource(1))
	for _, size := range []int{0, 1, 2, 3, 5, 255, 256, 257, 300} {
		l := naiveOf(t, textsOf(size)...)
		e := engine.Naive(l)
		for _, n := range []uint64{0, 1, 2, 3, uint64(size) / 2, uint64(size)} {
			for _, q := range someOf(n, rnd) {
				sameCall(t, "Naive", e, l, q)
			}
		}
		for _, q := range wrongOf(uint64(size)) {
			sameCall(t, "Naive", e, l, q)
		}
	}
}

// A log to which leaves are appended later is that log, and what was answered for a size stays.
func TestNaiveOfALogThatGrows(t *testing.T) {
	const most = 40
	l := rowsOver(leavesOf(most))
	log := naive.New()
	engines := []engine.Engine{engine.Naive(log)}
	for n := range uint64(most + 1) {
		for i, e := range engines {
			name := fmt.Sprintf("an engine made at %d leaves", i)
			checkBoth(t, name, e, askSize(), api.Answer{Size: n})
			for _, size := range []uint64{n, n / 2, n / 3} {
				for _, q := range []api.Query{askRoot(size), askPath(size/2, size), askProof(size, size), askProof(size/2, size), askBatch(size/3, size, size)} {
					checkBoth(t, name, e, q, l.answer(n, q))
				}
			}
			for _, q := range []api.Query{askRoot(n + 1), askPath(n, n+1), askPath(0, n+1), askProof(1, n+1), askBatch(0, 1, n+1)} {
				checkBoth(t, name, e, q, api.Answer{Code: api.CodeRange})
			}
		}
		if _, err := log.Append(leafText(int(n))); err != nil {
			t.Fatal(err)
		}
		engines = append(engines, engine.Naive(log))
	}
}

// checkNobody: an engine, but of nothing: the size 0, ErrNil of all else.
func checkNobody(t *testing.T, name string, e engine.Engine) {
	t.Helper()
	if e == nil {
		t.Fatalf("%s is nil", name)
	}
	no := api.Answer{Code: api.CodeMalformed}
	for range 2 {
		checkBoth(t, name, e, askSize(), api.Answer{Size: 0})
		for size := range uint64(4) {
			for _, q := range allOf(size)[1:] {
				checkDirect(t, name, e, q, nil, api.ErrNil)
				checkAsk(t, name, e, q, no)
			}
		}
		for _, q := range append(wrongOf(0), wrongOf(300)...) {
			checkDirect(t, name, e, q, nil, api.ErrNil)
			checkAsk(t, name, e, q, no)
		}
		for _, kind := range kindsThatAreNone() {
			checkAsk(t, name, e, api.Query{Kind: kind}, no)
		}
	}
}

func TestNaiveOfNoLog(t *testing.T) {
	checkNobody(t, "Naive(nil)", engine.Naive(nil))
	zero := &naive.Log{}
	checkNobody(t, "Naive of a zero log", engine.Naive(zero))
	if _, err := zero.Append("a"); !errors.Is(err, api.ErrNil) {
		t.Error("Naive makes a log of one that no call made:", err)
	}
}

func TestNaiveOfTwoLogs(t *testing.T) {
	one, two := naiveOf(t, "a"), naiveOf(t, "b", "c")
	l, m := rowsOver([]api.Hash{wantLeaf("a"), wantLeaf("d")}), rowsOver([]api.Hash{wantLeaf("b"), wantLeaf("c")})
	e, f := engine.Naive(one), engine.Naive(two)
	if _, err := one.Append("d"); err != nil {
		t.Fatal(err)
	}
	for size := range uint64(3) {
		for _, q := range allOf(size) {
			checkBoth(t, "the one", e, q, l.answer(2, q))
			checkBoth(t, "the other", f, q, m.answer(2, q))
		}
	}
}

// P17.1: Tiled

func TestTiledAnswersAsItsEngine(t *testing.T) {
	rnd := rand.New(rand.NewSource(2))
	for _, size := range []int{0, 1, 3, 256, 300, 1100} {
		l := rowsOver(leavesOf(size))
		for _, capacity := range []int{0, 1, 3, 1024} {
			s, r := storeOf(t, l, size), storeOf(t, l, size)
			one, two := readerOf(t, s, capacity), readerOf(t, r, capacity)
			e, of := engine.Tiled(tiledOf(t, one, uint64(size))), tiledOf(t, two, uint64(size))
			for range 60 {
				if rnd.Intn(6) == 0 {
					fail := 1 + rnd.Intn(6)
					restart(t, s, 0, fail)
					restart(t, r, 0, fail)
				}
				queries := someOf(rnd.Uint64()%uint64(size+1), rnd)
				if rnd.Intn(4) == 0 {
					queries = wrongOf(uint64(size))
				}
				sameCall(t, "Tiled", e, of, queries[rnd.Intn(len(queries))])
				asked, had := one.Counts()
				wantAsked, wantHad := two.Counts()
				reads, _ := s.Counts()
				wantReads, _ := r.Counts()
				if asked != wantAsked || had != wantHad || reads != wantReads {
					t.Fatalf("asked, had, reads: %d, %d, %d; want %d, %d, %d", asked, had, reads, wantAsked, wantHad, wantReads)
				}
			}
		}
	}
}

func TestTiledOfNoEngine(t *testing.T) {
	checkNobody(t, "Tiled(nil)", engine.Tiled(nil))
	checkNobody(t, "Tiled of a zero engine", engine.Tiled(&tiled.Engine{}))
}

// What is only asked for its size, or may not be asked, reads nothing.
func TestTiledReadsNothingForNothing(t *testing.T) {
	g := trioOf(t, 300, 4)
	g.fresh(1)
	e := engine.Tiled(tiledOf(t, g.r, 300))
	for _, q := range append(wrongOf(300), askSize(), askRoot(0), askProof(300, 300), askBatch(0, 300, 300)) {
		checkBoth(t, "Tiled", e, q, g.want(q))
	}
	for _, kind := range kindsThatAreNone() {
		checkAsk(t, "Tiled", e, spoilUnneeded(api.Query{Kind: kind}, rand.New(rand.NewSource(int64(kind)))), api.Answer{Code: api.CodeMalformed})
	}
	if asked, _ := g.r.Counts(); asked != 0 || g.reads() != 0 {
		t.Errorf("%d tiles asked for, %d reads", asked, g.reads())
	}
}

// An engine over the same reader has the tiles that the other one has read, and each keeps its own size.
func TestTiledOverOneReader(t *testing.T) {
	g := trioOf(t, 300, 8)
	of := engine.Tiled(tiledOf(t, g.r, 256))
	q := askPath(3, 256)
	g.checkTiled(q, g.want(q))
	reads := g.reads()
	checkBoth(t, "Tiled of 256", of, q, g.want(q))
	checkBoth(t, "Tiled of 256", of, askSize(), api.Answer{Size: 256})
	checkBoth(t, "Tiled of 256", of, askRoot(257), api.Answer{Code: api.CodeRange})
	g.check(askSize())
	if g.reads() != reads {
		t.Error("a tile that the reader's cache has is read")
	}
}

// P17.1: Compact

func TestCompactOfNoHashes(t *testing.T) {
	for _, leaves := range [][]api.Hash{nil, {}, make([]api.Hash, 0, 4)} {
		e := compactOf(t, leaves)
		for _, q := range append(wrongOf(0), askSize(), askRoot(0)) {
			checkBoth(t, "Compact of none", e, q, rows(nil).answer(0, q))
		}
		if h, err := e.Root(0); h != hash.Empty() || err != nil {
			t.Errorf("Root(0) = %x, %v", h, err)
		}
	}
}

func TestCompactOfOneHash(t *testing.T) {
	for _, h := range []api.Hash{wantLeaf("a"), {}, {31: 1}, wantNode(api.Hash{}, api.Hash{})} {
		e := compactOf(t, []api.Hash{h})
		checkBoth(t, "Compact of one", e, askSize(), api.Answer{Size: 1})
		checkBoth(t, "Compact of one", e, askRoot(0), api.Answer{Hashes: []api.Hash{sum()}})
		checkBoth(t, "Compact of one", e, askRoot(1), api.Answer{Hashes: []api.Hash{h}})
		for _, q := range []api.Query{askPath(0, 1), askProof(1, 1), askBatch(0, 1, 1)} {
			checkBoth(t, "Compact of one", e, q, api.Answer{})
		}
		for _, q := range wrongOf(1) {
			checkBoth(t, "Compact of one", e, q, api.Answer{Code: api.CodeRange})
		}
	}
}

// oddHashes: such as no leaf need have: all alike, none but noughts, with nodes of one another among them.
func oddHashes(n int, rnd *rand.Rand) []api.Hash {
	all := make([]api.Hash, n)
	kind := rnd.Intn(4)
	for i := range all {
		switch {
		case kind == 1:
			all[i] = api.Hash{7}
		case kind == 2:
			rnd.Read(all[i][:])
		case kind == 3 && i > 1:
			all[i] = wantNode(all[i-2], all[i-1])
		}
	}
	return all
}

func TestCompactOfAnyHashes(t *testing.T) {
	rnd := rand.New(rand.NewSource(3))
	for n := range 20 {
		for range 3 {
			leaves := oddHashes(n, rnd)
			l, e := rowsOver(leaves), compactOf(t, leaves)
			for size := range uint64(n + 1) {
				for _, q := range allOf(size) {
					checkBoth(t, "Compact", e, q, l.answer(uint64(n), q))
				}
			}
		}
	}
}

func TestCompactOfManyHashes(t *testing.T) {
	rnd := rand.New(rand.NewSource(4))
	leaves := leavesOf(65537)
	l := rowsOver(leaves)
	for _, n := range []uint64{1000, 1023, 1024, 1025, 4096, 65535, 65536, 65537} {
		e := compactOf(t, leaves[:n])
		checkBoth(t, "Compact", e, askSize(), api.Answer{Size: n})
		for _, size := range []uint64{n, n / 2, 300} {
			all := someOf(size, rnd)
			rnd.Shuffle(len(all), func(i, j int) { all[i], all[j] = all[j], all[i] })
			for _, q := range all[:3] {
				checkBoth(t, "Compact", e, q, l.answer(n, q))
			}
		}
		for _, q := range wrongOf(n) {
			checkBoth(t, "Compact", e, q, api.Answer{Code: api.CodeRange})
		}
	}
}

func TestCompactOfMoreThanMaxSize(t *testing.T) {
	all := make([]api.Hash, api.MaxSize+4096)
	for _, n := range []int{api.MaxSize + 1, api.MaxSize + 2, len(all)} {
		if e, err := engine.Compact(all[:n]); e != nil || !isOnly(err, api.ErrLimit) {
			t.Errorf("Compact of %d hashes: %v, %v", n, e != nil, err)
		}
	}
	for _, n := range []int{api.MaxSize - 1, api.MaxSize} {
		e := compactOf(t, all[:n])
		checkBoth(t, "Compact", e, askSize(), api.Answer{Size: uint64(n)})
		checkBoth(t, "Compact", e, askRoot(uint64(n)+1), api.Answer{Code: api.CodeRange})
	}
}

// What is handed in is left as it was, its spare room too, and may be turned later.
func TestCompactKeepsTheContentAlone(t *testing.T) {
	for _, n := range []int{0, 1, 2, 3, 5, 16, 300} {
		l := rowsOver(leavesOf(n))
		room := append(leavesOf(n), api.Hash{1}, api.Hash{2}, api.Hash{3})
		before := slices.Clone(room)
		e := compactOf(t, room[:n])
		checkSome := func() {
			t.Helper()
			for _, size := range []uint64{0, 1, 2, uint64(n) / 2, uint64(n)} {
				for _, q := range []api.Query{askRoot(size), askPath(size/2, size), askProof(size/2, size), askBatch(size/3, size/2+1, size), askRoot(uint64(n) + 1)} {
					checkBoth(t, "Compact", e, q, l.answer(uint64(n), q))
				}
			}
		}
		checkSome()
		if !slices.Equal(room, before) {
			t.Fatalf("the list of %d hashes, or its spare room, is turned", n)
		}
		spoil(room)
		checkSome()
		f := compactOf(t, room[:n]) // of other hashes by now
		if n > 0 && engine.Ask(f, askRoot(uint64(n))).Hashes[0] == l.tree(0, uint64(n)) {
			t.Fatal("an engine of other hashes answers as the first one")
		}
		checkSome()
	}
}

// P17.1 and P17.3: each call of each engine, by the definitions and by chapter 8

func TestDefinitionsAreChapter8(t *testing.T) {
	l, log := rowsOver(leavesOf(520)), naiveOf(t, textsOf(520)...)
	check := func(q api.Query) {
		t.Helper()
		checkDirect(t, "chapter 8", log, q, l.answer(520, q).Hashes, nil)
	}
	for size := range uint64(12) {
		for _, q := range allOf(size)[1:] {
			check(q)
		}
	}
	rnd := rand.New(rand.NewSource(5))
	for _, size := range []uint64{255, 256, 257, 300, 511, 512, 513} {
		for _, q := range someOf(size, rnd) {
			check(q)
		}
	}
	for _, q := range wrongOf(520) {
		checkDirect(t, "chapter 8", log, q, nil, api.ErrRange)
	}
}

func TestSmallLogs(t *testing.T) {
	for log := range 18 {
		for _, capacity := range []int{0, 1, 1024} {
			g := trioOf(t, log, capacity)
			for size := range uint64(log + 1) {
				for _, q := range allOf(size) {
					g.check(q)
				}
			}
		}
	}
}

// All numbers up to some above the size: what may be is answered, all else is refused.
func TestAllNumbersOfSmallLogs(t *testing.T) {
	for log := range 7 {
		g := trioOf(t, log, 2)
		for size := range uint64(log + 3) {
			g.check(askRoot(size))
			for a := range size + 3 {
				g.check(askPath(a, size))
				g.check(askProof(a, size))
				for b := range size + 3 {
					g.check(askBatch(a, b, size))
				}
			}
		}
	}
}

func TestLogsAboutTheEdgesOfTiles(t *testing.T) {
	rnd := rand.New(rand.NewSource(6))
	for i, log := range []int{127, 128, 255, 256, 257, 300, 511, 512, 513, 700} {
		g := trioOf(t, log, []int{0, 1, 2, 3, 1024}[i%5])
		sizes := []int{1, 2, 3, 5, 128, 255, 256, 257, 300, 511, 512, 513, log / 2, log - 1, log}
		sizes = slices.DeleteFunc(sizes, func(n int) bool { return n > log })
		slices.Sort(sizes)
		for _, size := range slices.Compact(sizes) {
			for k, q := range someOf(uint64(size), rnd) {
				if k < 9 || k%5 == i%5 {
					g.check(q)
				}
			}
		}
	}
}

func TestWhatMayNotBe(t *testing.T) {
	for _, log := range []int{0, 1, 2, 3, 5, 255, 256, 257, 300, 511, 512, 513} {
		g := trioOf(t, log, 1)
		for _, q := range wrongOf(uint64(log)) {
			if mayBe(g.size, q) {
				t.Fatalf("%+v may be", q)
			}
			g.check(q)
		}
	}
}

func TestGreatLogs(t *testing.T) {
	l := rowsOver(leavesOf(66000))
	texts := textsOf(66000)
	for i, log := range []uint64{65535, 65536, 65537, 66000} {
		g := trioOver(t, texts[:log], l, []int{0, 3, 1024}[i%3])
		all := []api.Query{askRoot(log), askPath(log-1, log), askPath(300, 65280), askProof(65280, log), askBatch(255, 300, log)}
		for _, q := range []api.Query{askSize(), all[i], all[i+1], askPath(299, 300), askRoot(log + 1), askPath(log, log)} {
			g.check(q)
		}
	}
}

func TestTheGreatestLog(t *testing.T) {
	const most = api.MaxSize
	g := trioOf(t, most, 1024)
	rnd := rand.New(rand.NewSource(7))
	for _, q := range append(someOf(300, rnd), askSize(), askRoot(0)) {
		g.check(q)
	}
	for _, q := range wrongOf(most) {
		g.check(q)
	}
	for i, e := range g.engines {
		q := []api.Query{askRoot(most), askPath(most-1, most), askPath(most-1, most)}[i]
		checkAsk(t, nameOf(i), e, q, g.want(q))
		checkAsk(t, nameOf(i), e, askBatch(0, most, most), api.Answer{})
	}
}

// P17.2

// kindsThatAreNone: those of which an engine is asked nothing.
func kindsThatAreNone() []api.QueryKind {
	var all []api.QueryKind
	for k := range 256 {
		if kind := api.QueryKind(k); !slices.Contains([]api.QueryKind{api.AskSize, api.AskRoot, api.AskPath, api.AskProof, api.AskBatch}, kind) {
			all = append(all, kind)
		}
	}
	return all
}

func TestKindsThatAreNone(t *testing.T) {
	rnd := rand.New(rand.NewSource(8))
	all := kindsThatAreNone()
	if len(all) != 251 || !slices.Contains(all, api.AskNone) || !slices.Contains(all, api.AskLeaf) || !slices.Contains(all, api.AskAppend) {
		t.Fatal("the kinds are others")
	}
	g := trioOf(t, 5, 1)
	for _, kind := range all {
		g.check(api.Query{Kind: kind})
		g.check(api.Query{Kind: kind, Size: 3, Index: 1, Old: 2, Begin: 1, End: 2})
		q := spoilUnneeded(api.Query{Kind: kind}, rnd)
		g.check(q)
		checkAsk(t, "no engine", nil, q, api.Answer{Code: api.CodeMalformed})
	}
	if g.reads() != 0 || g.log.Size() != 5 {
		t.Error("a query of no Kind does something")
	}
}

func TestAskOfNoEngine(t *testing.T) {
	rnd := rand.New(rand.NewSource(9))
	var none engine.Engine
	for _, q := range append(append(allOf(4), wrongOf(4)...), askRoot(0), askSize()) {
		checkAsk(t, "no engine", none, q, api.Answer{Code: api.CodeMalformed})
		checkAsk(t, "no engine", none, spoilUnneeded(q, rnd), api.Answer{Code: api.CodeMalformed})
	}
}

// Fields that a Kind does not need are not looked at, and what is handed in stays as it is.
func TestFieldsThatAreNotNeeded(t *testing.T) {
	rnd := rand.New(rand.NewSource(10))
	for _, size := range []int{0, 1, 2, 5, 9, 300} {
		g := trioOf(t, size, 2)
		queries := append(someOf(uint64(size), rnd), askSize(), askRoot(0), askRoot(uint64(size)/2))
		for _, q := range append(queries, wrongOf(uint64(size))...) {
			spoilt := spoilUnneeded(q, rnd)
			leaves := slices.Clone(spoilt.Leaves)
			for i, e := range g.engines {
				checkAsk(t, nameOf(i), e, spoilt, g.want(q))
			}
			if !slices.Equal(spoilt.Leaves, leaves) {
				t.Fatal("Ask turns the query")
			}
		}
		for kind := range 256 {
			for i, e := range g.engines { // whichever engine the query names, the one that is asked answers
				q := askRoot(uint64(size))
				q.Engine = api.EngineKind(kind)
				checkAsk(t, nameOf(i), e, q, g.want(q))
			}
		}
	}
}

// told answers what it is told, and keeps what it was asked.
type told struct {
	asked  []string
	size   uint64
	hashes []api.Hash
	err    error
}

func (e *told) note(what string, numbers ...uint64) {
	e.asked = append(e.asked, what+fmt.Sprint(numbers))
}

func (e *told) Size() uint64 {
	e.note("Size")
	return e.size
}

func (e *told) Root(size uint64) (api.Hash, error) {
	e.note("Root", size)
	return e.hashes[0], e.err
}

func (e *told) Path(index, size uint64) ([]api.Hash, error) {
	e.note("Path", index, size)
	return e.hashes, e.err
}

func (e *told) Proof(old, size uint64) ([]api.Hash, error) {
	e.note("Proof", old, size)
	return e.hashes, e.err
}

func (e *told) Batch(begin, end, size uint64) ([]api.Hash, error) {
	e.note("Batch", begin, end, size)
	return e.hashes, e.err
}

// calls: those that the Kinds are, with numbers of which no two are alike.
func calls() map[string]api.Query {
	q := api.Query{Size: 11, Index: 12, Old: 13, Begin: 14, End: 15}
	all := map[string]api.Query{}
	for name, kind := range map[string]api.QueryKind{"Size[]": api.AskSize, "Root[11]": api.AskRoot, "Path[12 11]": api.AskPath, "Proof[13 11]": api.AskProof, "Batch[14 15 11]": api.AskBatch} {
		q.Kind = kind
		all[name] = q
	}
	return all
}

func TestEachKindIsOneCall(t *testing.T) {
	for name, q := range calls() {
		e := &told{size: 77, hashes: []api.Hash{{1}, {2}, {3}}}
		want := api.Answer{Hashes: []api.Hash{{1}, {2}, {3}}}
		switch q.Kind {
		case api.AskSize:
			want = api.Answer{Size: 77}
		case api.AskRoot:
			want.Hashes = want.Hashes[:1]
		}
		checkAsk(t, name, e, q, want)
		if !slices.Equal(e.asked, []string{name}) {
			t.Errorf("%+v: the engine is asked %v, want %s", q, e.asked, name)
		}
	}
	for _, kind := range kindsThatAreNone() {
		e := &told{size: 77, hashes: []api.Hash{{1}}}
		checkAsk(t, "no kind", e, api.Query{Kind: kind}, api.Answer{Code: api.CodeMalformed})
		if len(e.asked) != 0 {
			t.Errorf("the kind %d: the engine is asked %v", kind, e.asked)
		}
	}
}

// around is an error with another one in it.
type around struct{ in error }

func (a around) Error() string { return "around: " + a.in.Error() }
func (a around) Unwrap() error { return a.in }

// Whatever an engine answers beside an error: the Code alone.
func TestCodes(t *testing.T) {
	codes := map[error]api.Code{api.ErrRange: api.CodeRange, api.ErrUnavailable: api.CodeUnavailable, api.ErrCorrupt: api.CodeUnavailable, api.ErrDead: api.CodeDead}
	all := append(tableErrors(), errors.New("none of the table"))
	for _, err := range all {
		want, ok := codes[err]
		if !ok {
			want = api.CodeMalformed
		}
		for _, x := range []error{err, around{err}, &api.Fault{Err: err}, &api.Fault{Err: around{err}, At: 5}} {
			for name, q := range calls() {
				e := &told{size: 77, hashes: []api.Hash{{1}, {2}}, err: x}
				if q.Kind == api.AskSize {
					checkAsk(t, name, e, q, api.Answer{Size: 77})
				} else {
					checkAsk(t, name+", "+x.Error(), e, q, api.Answer{Code: want})
				}
			}
		}
	}
}

// The errors that the engines have, with their Codes: ErrNil, ErrRange, ErrUnavailable, ErrCorrupt, ErrDead.
func TestCodesOfTheEngines(t *testing.T) {
	g := trioOf(t, 300, 0)
	e := g.engines[byTiled]
	for _, q := range []api.Query{askRoot(300), askPath(299, 300), askProof(256, 300), askBatch(256, 299, 300)} {
		checkAsk(t, "Naive(nil)", engine.Naive(nil), q, api.Answer{Code: api.CodeMalformed})
		checkAsk(t, "Tiled(nil)", engine.Tiled(nil), q, api.Answer{Code: api.CodeMalformed})
		over := q
		over.Size++
		g.check(over)
		restart(t, g.s, 0, 1, 2)
		checkDirect(t, "Tiled", e, q, nil, api.ErrUnavailable)
		g.checkTiled(q, api.Answer{Code: api.CodeUnavailable})
		crash(t, g.s)
		checkDirect(t, "Tiled", e, q, nil, api.ErrDead)
		g.checkTiled(q, api.Answer{Code: api.CodeDead})
		restart(t, g.s, 0)
		put(t, g.s, api.Tile{Index: 1, Width: 44}, "x")
		checkDirect(t, "Tiled", e, q, nil, api.ErrCorrupt)
		g.checkTiled(q, api.Answer{Code: api.CodeUnavailable})
		put(t, g.s, api.Tile{Index: 1, Width: 44}, bytesOf(g.l[0][256:300]))
		g.check(q)
	}
}

// P17.3

func capacities() []int { return []int{0, 1, 2, 3, 4, 7, 64, api.MaxCache} }

// someQuery: of any Kind and numbers, most of which may be.
func someQuery(size uint64, rnd *rand.Rand) api.Query {
	n := rnd.Uint64() % (size + 1)
	if rnd.Intn(3) == 0 {
		n = size
	}
	if rnd.Intn(12) == 0 {
		wrong := wrongOf(size)
		return wrong[rnd.Intn(len(wrong))]
	}
	a, b := rnd.Uint64()%(n+1), rnd.Uint64()%(n+1)
	q := []api.Query{askSize(), askRoot(n), askPath(a, n), askPath(min(a, b), n), askProof(a, n), askProof(max(a, b), n), askBatch(min(a, b), max(a, b), n), {Kind: api.QueryKind(rnd.Intn(256))}}[rnd.Intn(8)]
	return spoilUnneeded(q, rnd)
}

func TestOneAnswer(t *testing.T) {
	rnd := rand.New(rand.NewSource(11))
	for _, size := range []int{0, 1, 3, 257, 600} {
		for _, capacity := range capacities() {
			g := trioOf(t, size, capacity)
			for range 120 {
				q := someQuery(g.size, rnd)
				first := engine.Ask(g.engines[byNaive], q)
				if !same(first, g.want(q)) {
					t.Fatalf("Naive, %+v: %+v", q, first)
				}
				for i, e := range g.engines {
					checkAsk(t, nameOf(i), e, q, first)
				}
			}
		}
	}
}

// severalQueries: of a log of 1100 leaves, with its seven tiles.
func severalQueries() []api.Query {
	return []api.Query{
		askRoot(1100), askRoot(1000), askRoot(257), askRoot(255), askPath(0, 1100), askPath(300, 1100), askPath(1099, 1100), askPath(767, 768),
		askProof(1, 1100), askProof(257, 1100), askProof(700, 1001), askProof(1024, 1100), askProof(255, 256),
		askBatch(0, 1, 1100), askBatch(1, 1099, 1100), askBatch(300, 700, 1100), askBatch(255, 257, 1100), askBatch(511, 512, 1024),
	}
}

// At each of a query's reads: that query alone is lost.
func TestEachReadFails(t *testing.T) {
	for _, capacity := range []int{0, 1, 1024} {
		g := trioOf(t, 1100, capacity)
		for i, q := range severalQueries() {
			next := severalQueries()[(i+1)%len(severalQueries())]
			reads := g.readsOf(q)
			if reads == 0 {
				t.Fatalf("%+v reads nothing", q)
			}
			for k := range reads {
				g.fresh(k + 1)
				g.checkTiled(q, api.Answer{Code: api.CodeUnavailable})
				if g.reads() != k+1 {
					t.Fatalf("%+v: %d reads, of which the last one fails; want %d", q, g.reads(), k+1)
				}
				if k%2 == 0 {
					g.checkTiled(next, g.want(next))
				}
				g.checkTiled(q, g.want(q))
				g.checkTiled(next, g.want(next))
			}
			g.fresh(reads + 1)
			g.checkTiled(q, g.want(q)) // the read that fails is none of its own
		}
	}
}

// CodeUnavailable just if a read failed during the query: among all reads any may fail.
func TestReadsThatFail(t *testing.T) {
	rnd := rand.New(rand.NewSource(12))
	for _, size := range []int{1, 3, 256, 300, 1100} {
		for _, capacity := range capacities() {
			g := trioOf(t, size, capacity)
			var failing []int
			for step := range 150 {
				if step%30 == 0 {
					failing = nil
					for k := 1; k < 60; k++ {
						if rnd.Intn(4) == 0 {
							failing = append(failing, k)
						}
					}
					g.fresh(failing...)
				}
				q := someQuery(g.size, rnd)
				before := g.reads()
				got := engine.Ask(g.engines[byTiled], q)
				after := g.reads()
				want := g.want(q)
				if slices.ContainsFunc(failing, func(k int) bool { return before < k && k <= after }) {
					want = api.Answer{Code: api.CodeUnavailable}
				}
				if !same(got, want) {
					t.Fatalf("%+v, reads %d to %d of which %v fail: %+v; want %+v", q, before+1, after, failing, got, want)
				}
			}
		}
	}
}

// Where a tile's text is none: what needs it is unavailable as long as it is so, all else is answered.
func TestATileIsCorrupt(t *testing.T) {
	l := rowsOver(leavesOf(1100))
	for _, capacity := range []int{0, 1024} {
		g := trioOver(t, textsOf(1100), l, capacity)
		for i, x := range tilesOf(l, 1100) {
			right := bytesOf(x.hashes)
			broken := []string{"", right[1:], right + "x", right[32:], right + right}
			lost := 0
			for j, q := range severalQueries() {
				g.fresh()
				put(t, g.s, x.tile, broken[(i+j)%len(broken)])
				got := engine.Ask(g.engines[byTiled], q)
				if !same(got, api.Answer{Code: api.CodeUnavailable}) {
					if !same(got, g.want(q)) {
						t.Fatalf("%+v, with %v corrupt: %+v", q, x.tile, got)
					}
					continue
				}
				lost++
				g.checkTiled(q, got) // again, as long as it lies there
				put(t, g.s, x.tile, right)
				g.checkTiled(q, g.want(q))
			}
			if lost == 0 || lost == len(severalQueries()) {
				t.Errorf("with %v corrupt %d queries are unavailable", x.tile, lost)
			}
			put(t, g.s, x.tile, right)
		}
		for _, q := range severalQueries() {
			g.check(q)
		}
	}
}

// A tile that does not lie there is as one that is corrupt.
func TestATileIsGone(t *testing.T) {
	l := rowsOver(leavesOf(300))
	s := storeOf(t, l, 256)
	e := engine.Tiled(tiledOf(t, readerOf(t, s, 4), 300)) // 0/1 of 44 is not there
	want := func(q api.Query) api.Answer { return l.answer(300, q) }
	for range 2 {
		checkAsk(t, "Tiled", e, askRoot(300), api.Answer{Code: api.CodeUnavailable})
		checkAsk(t, "Tiled", e, askPath(3, 256), want(askPath(3, 256)))
		checkAsk(t, "Tiled", e, askRoot(256), want(askRoot(256)))
		checkAsk(t, "Tiled", e, askRoot(301), want(askRoot(301)))
	}
	put(t, s, api.Tile{Index: 1, Width: 44}, bytesOf(l[0][256:300]))
	checkAsk(t, "Tiled", e, askRoot(300), want(askRoot(300)))
}

// Where the store has crashed: the same, or CodeDead. Behind a restart all is answered.
func TestTheStoreIsDead(t *testing.T) {
	for _, capacity := range []int{0, 2, 1024} {
		g := trioOf(t, 1100, capacity)
		for i, q := range severalQueries() {
			reads := g.readsOf(q)
			crash(t, g.s)
			kept := api.Answer{Code: api.CodeDead}
			if reads <= capacity {
				kept = g.want(q) // its tiles are all in the cache
			}
			g.checkTiled(q, kept)
			g.checkTiled(askSize(), api.Answer{Size: 1100})
			g.checkTiled(askRoot(0), g.want(askRoot(0)))
			g.checkTiled(askRoot(1101), api.Answer{Code: api.CodeRange})
			g.checkTiled(api.Query{Kind: 99}, api.Answer{Code: api.CodeMalformed})
			g.r.Forget()
			for range 2 {
				g.checkTiled(q, api.Answer{Code: api.CodeDead})
			}
			if !g.s.Dead() {
				t.Fatal("a query makes the store alive")
			}
			restart(t, g.s, 0)
			if i%2 == 0 {
				g.checkTiled(askRoot(1100), g.want(askRoot(1100)))
			}
			g.checkTiled(q, g.want(q))
			for _, other := range g.engines[:byTiled] { // which hang on no store
				checkAsk(t, "beside a store that crashes", other, q, g.want(q))
			}
		}
	}
}

// Whatever was refused or lost: no later answer is another one for it.
func TestNoLaterAnswerIsAnother(t *testing.T) {
	rnd := rand.New(rand.NewSource(13))
	for _, size := range []int{1, 3, 300, 700} {
		for _, capacity := range []int{0, 1, 3, 1024} {
			g := trioOf(t, size, capacity)
			for range 40 {
				switch rnd.Intn(4) {
				case 0:
					restart(t, g.s, 0, 1+rnd.Intn(2), 3+rnd.Intn(3))
				case 1:
					crash(t, g.s)
				case 2:
					g.r.Forget()
				}
				for range 4 {
					got := engine.Ask(g.engines[byTiled], someQuery(g.size, rnd))
					if (got.Code == api.CodeDead || got.Code == api.CodeUnavailable) && (got.Size != 0 || len(got.Hashes) != 0 || got.Leaf != "") {
						t.Fatalf("beside a code: %+v", got)
					}
				}
				restart(t, g.s, 0)
				q := someQuery(g.size, rnd)
				for i, e := range g.engines {
					checkAsk(t, nameOf(i), e, q, g.want(q))
				}
			}
		}
	}
}

// What a dead store has not, another engine over a store that lives has.
func TestTiledOverOtherStores(t *testing.T) {
	one, two := trioOf(t, 300, 4), trioOf(t, 300, 4)
	crash(t, one.s)
	for _, q := range []api.Query{askRoot(300), askPath(299, 300)} {
		one.checkTiled(q, api.Answer{Code: api.CodeDead})
		two.check(q)
		one.checkTiled(q, api.Answer{Code: api.CodeDead})
	}
}

// R4

// spoil: all that a list's memory has, and what is behind its end.
func spoil(l []api.Hash) {
	l = l[:cap(l)]
	for i := range l {
		l[i] = api.Hash{0xee, byte(i)}
	}
}

func TestAnswersAreMemoryOfTheirOwn(t *testing.T) {
	for _, capacity := range []int{0, 1024} {
		g := trioOf(t, 1100, capacity)
		for _, q := range append(severalQueries(), askRoot(0), askRoot(1), askPath(0, 2), askProof(1, 2)) {
			want := g.want(q)
			var answers [][]api.Hash
			for range 2 {
				for _, e := range g.engines {
					l, err := direct(e, q)
					if err != nil {
						t.Fatal(err)
					}
					answers = append(answers, l, engine.Ask(e, q).Hashes)
				}
			}
			for i, l := range answers {
				spoil(l)
				for _, other := range answers[i+1:] {
					if !slices.Equal(other, want.Hashes) {
						t.Fatalf("two answers to %+v share memory", q)
					}
				}
			}
			g.check(q)
		}
	}
}

func TestLaterCallsTurnNoAnswer(t *testing.T) {
	g := trioOf(t, 1100, 1)
	var answers []api.Answer
	for _, q := range severalQueries() {
		for _, e := range g.engines {
			answers = append(answers, engine.Ask(e, q))
		}
	}
	for _, q := range append(severalQueries(), wrongOf(1100)...) {
		for _, e := range g.engines {
			spoil(engine.Ask(e, q).Hashes)
		}
	}
	if _, err := g.log.Append("one more"); err != nil {
		t.Fatal(err)
	}
	crash(t, g.s)
	for i, got := range answers {
		if q := severalQueries()[i/len(g.engines)]; !same(got, g.want(q)) {
			t.Errorf("later calls turn the answer to %+v", q)
		}
	}
}

// R5

// Engines side by side, each with what it stands on, and one Compact that several ask.
func TestSideBySide(t *testing.T) {
	l := rowsOver(leavesOf(1100))
	shared := compactOf(t, l[0])
	right := func(engines []engine.Engine) bool {
		for _, q := range severalQueries() {
			want := l.answer(1100, q)
			for _, e := range engines {
				if !same(engine.Ask(e, q), want) {
					return false
				}
			}
		}
		return true
	}
	done := make(chan bool)
	for range 8 {
		g := trioOver(t, textsOf(1100), l, 2)
		engines := append(g.engines[:], shared)
		go func() { done <- right(engines) }()
	}
	for range 8 {
		if !<-done {
			t.Error("another answer beside other engines")
		}
	}
}

// Two engines may be held against each other as any two values of an interface.
func TestEnginesMayBeCompared(t *testing.T) {
	leaves := leavesOf(3)
	all := map[engine.Engine]int{}
	for _, e := range []engine.Engine{compactOf(t, leaves), compactOf(t, leaves), engine.Naive(nil), engine.Tiled(nil)} {
		all[e]++
	}
	if len(all) != 4 {
		t.Errorf("%d engines, want 4", len(all))
	}
}
