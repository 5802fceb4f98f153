package reader_test

import (
	"crypto/sha256"
	"errors"
	"fmt"
	"math"
	"math/big"
	"math/rand"
	"slices"
	"strings"
	"testing"

	"cartulary/api"
	"cartulary/reader"
	"cartulary/store"
	"cartulary/tile"
)

const (
	mostLeaves uint64 = 1 << 63
	greatest   uint64 = 1<<64 - 1
)

// tableErrors are the errors of the document's table, in its order.
func tableErrors() []error {
	return []error{
		api.ErrNil, api.ErrArg, api.ErrInput, api.ErrLimit, api.ErrRange, api.ErrGone, api.ErrUnavailable, api.ErrDead,
		api.ErrCorrupt, api.ErrProof, api.ErrSpent, api.ErrSigned, api.ErrFork, api.ErrOld, api.ErrStopped, api.ErrScript,
	}
}

// isOnly: got is that error of the table, no other one, and tells no place; none, if none is wanted.
func isOnly(got, want error) bool {
	if want == nil {
		return got == nil
	}
	for _, e := range tableErrors() {
		if errors.Is(got, e) != (e == want) {
			return false
		}
	}
	var f *api.Fault
	return !errors.As(got, &f) || f.At == 0
}

func sum(parts ...[]byte) api.Hash { return api.Hash(sha256.Sum256(slices.Concat(parts...))) }

// wantNode: the definition of the document, with the library's SHA-256.
func wantNode(a, b api.Hash) api.Hash { return sum([]byte{1}, a[:], b[:]) }

// wantOver: the hash of the whole tree over these.
func wantOver(l []api.Hash) api.Hash {
	if len(l) == 1 {
		return l[0]
	}
	return wantNode(wantOver(l[:len(l)/2]), wantOver(l[len(l)/2:]))
}

// someHashes: so many, no two the same, others for another seed.
func someHashes(seed int64, count int) []api.Hash {
	rnd := rand.New(rand.NewSource(seed))
	all := make([]api.Hash, count)
	for i := range all {
		rnd.Read(all[i][:])
	}
	return all
}

// rows: of each level the hashes of its whole trees, from 0 on.
func rows(leaves []api.Hash) [][]api.Hash {
	all := [][]api.Hash{leaves}
	for row := leaves; len(row) > 1; {
		var above []api.Hash
		for i := 0; i+1 < len(row); i += 2 {
			above = append(above, wantNode(row[i], row[i+1]))
		}
		all = append(all, above)
		row = above
	}
	return all
}

func logRows(leaves int) [][]api.Hash {
	all := make([]api.Hash, leaves)
	for i := range all {
		all[i] = sum([]byte{0}, fmt.Appendf(nil, "leaf %d", i))
	}
	return rows(all)
}

// laid is a tile with what lies by its name.
type laid struct {
	tile   api.Tile
	hashes []api.Hash
}

// tilesOf: by the words of chapter 11, each eighth row cut into pieces of 256.
func tilesOf(rows [][]api.Hash) []laid {
	var all []laid
	for level := 0; 8*level < len(rows); level++ {
		row := rows[8*level]
		for at := 0; at < len(row); at += 256 {
			piece := row[at:min(at+256, len(row))]
			all = append(all, laid{api.Tile{Level: uint8(level), Index: uint64(at / 256), Width: len(piece)}, piece})
		}
	}
	return all
}

func tileAt(level uint8, index uint64, width int) api.Tile {
	return api.Tile{Level: level, Index: index, Width: width}
}

func tree(level uint8, index uint64) api.Coord { return api.Coord{Level: level, Index: index} }

func nameOf(t *testing.T, x api.Tile) string {
	t.Helper()
	name, err := tile.Path(x)
	if err != nil {
		t.Fatalf("Path(%v): %v", x, err)
	}
	return name
}

func bytesOf(l []api.Hash) string {
	var b []byte
	for _, h := range l {
		b = append(b, h[:]...)
	}
	return string(b)
}

func newStore(t *testing.T) *store.Store {
	t.Helper()
	s, err := store.New(api.Trouble{})
	if err != nil {
		t.Fatal(err)
	}
	return s
}

func put(t *testing.T, s *store.Store, x api.Tile, text string) {
	t.Helper()
	if err := s.Put(nameOf(t, x), text); err != nil {
		t.Fatalf("Put of %v: %v", x, err)
	}
}

func lay(t *testing.T, s *store.Store, all []laid) {
	t.Helper()
	for _, l := range all {
		put(t, s, l.tile, bytesOf(l.hashes))
	}
}

func restart(t *testing.T, s *store.Store, crash int, reads ...int) {
	t.Helper()
	if err := s.Restart(api.Trouble{Reads: reads, Crash: crash}); err != nil {
		t.Fatal(err)
	}
}

// crash: the store is dead then, and has the texts that it had.
func crash(t *testing.T, s *store.Store) {
	t.Helper()
	restart(t, s, 1)
	if err := s.Put("x", "y"); !errors.Is(err, api.ErrDead) || !s.Dead() {
		t.Fatal("the store has not crashed:", err)
	}
}

// storeOf: a store in which the tiles of a log lie and nothing else, both counts 0.
func storeOf(t *testing.T, rows [][]api.Hash) *store.Store {
	t.Helper()
	s := newStore(t)
	lay(t, s, tilesOf(rows))
	restart(t, s, 0)
	return s
}

func made(t *testing.T, s *store.Store, capacity int) *reader.Reader {
	t.Helper()
	r, err := reader.New(s, capacity)
	if r == nil || err != nil {
		t.Fatalf("New with the capacity %d: %v, %v", capacity, r, err)
	}
	return r
}

// The checks of one call each.

func checkTile(t *testing.T, r *reader.Reader, x api.Tile, want []api.Hash) {
	t.Helper()
	if l, err := r.Tile(x); err != nil || !slices.Equal(l, want) {
		t.Fatalf("Tile(%v): %d hashes, %v; want %d hashes, and these", x, len(l), err, len(want))
	}
}

func checkNoTile(t *testing.T, r *reader.Reader, x api.Tile, want error) {
	t.Helper()
	if l, err := r.Tile(x); len(l) != 0 || !isOnly(err, want) {
		t.Fatalf("Tile(%v): %d hashes, %v; want %v", x, len(l), err, want)
	}
}

func checkNode(t *testing.T, r *reader.Reader, c api.Coord, size uint64, want api.Hash) {
	t.Helper()
	if h, err := r.Node(c, size); err != nil || h != want {
		t.Fatalf("Node(%v, %d) = %x, %v; want %x", c, size, h, err, want)
	}
}

func checkNoNode(t *testing.T, r *reader.Reader, c api.Coord, size uint64, want error) {
	t.Helper()
	if h, err := r.Node(c, size); h != (api.Hash{}) || !isOnly(err, want) {
		t.Fatalf("Node(%v, %d) = %x, %v; want %v", c, size, h, err, want)
	}
}

func checkCounts(t *testing.T, r *reader.Reader, asked, had int) {
	t.Helper()
	if a, h := r.Counts(); a != asked || h != had {
		t.Fatalf("Counts() = %d, %d, want %d, %d", a, h, asked, had)
	}
}

func checkReads(t *testing.T, s *store.Store, want int) {
	t.Helper()
	if reads, _ := s.Counts(); reads != want {
		t.Fatalf("the store counts %d reads, want %d", reads, want)
	}
}

// checkHad: the cache has it, or not; one that it has not is read. (In both cases it is the newest then.)
func checkHad(t *testing.T, r *reader.Reader, x laid, want bool) {
	t.Helper()
	_, before := r.Counts()
	checkTile(t, r, x.tile, x.hashes)
	if _, had := r.Counts(); (had > before) != want {
		t.Fatalf("Tile(%v) was had: %v, want %v", x.tile, had > before, want)
	}
}

// The chapter's examples.

func TestExamplesOfNew(t *testing.T) {
	s := storeOf(t, logRows(300))
	checkNoNew(t, nil, 1, api.ErrNil)
	checkNoNew(t, s, -1, api.ErrArg)
	checkNoNew(t, s, 1025, api.ErrArg)
}

func TestExamplesOfTile(t *testing.T) {
	h := logRows(300)
	r := made(t, storeOf(t, h), 1)
	narrow, whole := tileAt(0, 1, 44), tileAt(0, 0, 256)
	checkTile(t, r, narrow, h[0][256:300])
	checkTile(t, r, narrow, h[0][256:300])
	checkCounts(t, r, 2, 1)
	checkTile(t, r, whole, h[0][:256])
	checkTile(t, r, narrow, h[0][256:300])
	checkCounts(t, r, 4, 1)
	checkNoTile(t, r, tileAt(0, 1, 45), api.ErrCorrupt)
	checkNoTile(t, r, tileAt(0, 1, 0), api.ErrArg)
	checkCounts(t, r, 5, 1)
}

func TestExamplesOfNode(t *testing.T) {
	h := logRows(300)
	r := made(t, storeOf(t, h), 1)
	checkNode(t, r, tree(0, 299), 300, h[0][299])
	checkNode(t, r, tree(2, 0), 300, wantOver(h[0][:4]))
	checkNode(t, r, tree(8, 0), 300, wantOver(h[0][:256]))
	checkNoNode(t, r, tree(0, 300), 300, api.ErrRange)
	checkNoNode(t, r, tree(64, 0), 300, api.ErrRange)
	checkNoNode(t, r, tree(8, 1), 300, api.ErrRange)
}

func TestExamplesOfTrouble(t *testing.T) {
	h := logRows(300)
	s := storeOf(t, h)
	r := made(t, s, 1)
	restart(t, s, 0, 1)
	checkNoTile(t, r, tileAt(0, 1, 44), api.ErrUnavailable)
	checkTile(t, r, tileAt(0, 1, 44), h[0][256:])
	crash(t, s)
	checkTile(t, r, tileAt(0, 1, 44), h[0][256:])
	checkNoTile(t, r, tileAt(0, 0, 256), api.ErrDead)
}

// P14.1

func checkNoNew(t *testing.T, s *store.Store, capacity int, want error) {
	t.Helper()
	if r, err := reader.New(s, capacity); r != nil || !isOnly(err, want) {
		t.Fatalf("New with the capacity %d: %v, %v; want %v", capacity, r, err, want)
	}
}

func wrongCapacities() []int {
	return []int{-1, -2, -1024, math.MinInt, -math.MaxInt, 1025, 1026, 2048, 1 << 31, 1 << 32, math.MaxInt}
}

func rightCapacities() []int { return []int{0, 1, 2, 3, 255, 256, 1023, 1024} }

func TestNewOfNoStore(t *testing.T) {
	for _, capacity := range append(wrongCapacities(), rightCapacities()...) {
		checkNoNew(t, nil, capacity, api.ErrNil)
		zero := &store.Store{}
		checkNoNew(t, zero, capacity, api.ErrNil)
		checkNoNew(t, new(store.Store), capacity, api.ErrNil)
		if err := zero.Put("a", "x"); !errors.Is(err, api.ErrNil) || zero.Names() != nil {
			t.Fatal("New makes a store of one that no call made:", err)
		}
	}
}

func TestNewOfCapacities(t *testing.T) {
	s := storeOf(t, logRows(300))
	for _, capacity := range wrongCapacities() {
		checkNoNew(t, s, capacity, api.ErrArg)
	}
	for _, capacity := range rightCapacities() {
		checkCounts(t, made(t, s, capacity), 0, 0)
	}
	checkReads(t, s, 0)
}

// TestNewTouchesNothing: what the store tells stays, and the trouble is still to come, whatever New answers.
func TestNewTouchesNothing(t *testing.T) {
	h := logRows(300)
	for _, capacity := range append(wrongCapacities(), rightCapacities()...) {
		s := storeOf(t, h)
		names := s.Names()
		restart(t, s, 1, 1)
		r, _ := reader.New(s, capacity)
		if reads, writes := s.Counts(); reads != 0 || writes != 0 || s.Dead() || !slices.Equal(s.Names(), names) {
			t.Fatalf("New with the capacity %d: the store counts %d, %d, dead %v, names %q", capacity, reads, writes, s.Dead(), s.Names())
		}
		if r != nil {
			checkNoTile(t, r, tileAt(0, 0, 256), api.ErrUnavailable)
		}
		if err := s.Put("a", "x"); !errors.Is(err, api.ErrDead) {
			t.Fatalf("New with the capacity %d: the crash is not to come: %v", capacity, err)
		}
		reader.New(s, capacity)
		if !s.Dead() {
			t.Fatalf("New with the capacity %d makes a dead store alive", capacity)
		}
	}
}

func TestNewOfADeadStore(t *testing.T) {
	h := logRows(300)
	s := storeOf(t, h)
	crash(t, s)
	checkNoNew(t, s, -1, api.ErrArg)
	checkNoNew(t, s, 1025, api.ErrArg)
	r := made(t, s, 2)
	checkNoTile(t, r, tileAt(0, 1, 44), api.ErrDead)
	checkNoNode(t, r, tree(0, 299), 300, api.ErrDead)
	checkCounts(t, r, 2, 0)
	restart(t, s, 0)
	checkTile(t, r, tileAt(0, 1, 44), h[0][256:])
	checkNode(t, r, tree(0, 299), 300, h[0][299])
	checkCounts(t, r, 4, 1)
}

func TestNewOfAStoreWithoutTexts(t *testing.T) {
	s := newStore(t)
	r := made(t, s, 2)
	checkNoTile(t, r, tileAt(0, 0, 1), api.ErrCorrupt)
	checkNoNode(t, r, tree(0, 0), 1, api.ErrCorrupt)
	checkCounts(t, r, 2, 0)
	checkReads(t, s, 2)
}

// P14.2

// wantMayBe: the chapter's words, in numbers without end.
func wantMayBe(x api.Tile) bool {
	if x.Level > 7 || x.Width < 1 || x.Width > 256 {
		return false
	}
	end := new(big.Int).SetUint64(x.Index)
	end.Mul(end, big.NewInt(256))
	end.Add(end, big.NewInt(int64(x.Width)))
	end.Lsh(end, uint(8*x.Level))
	return end.Cmp(new(big.Int).SetUint64(mostLeaves)) <= 0
}

// edgeTiles: at all edges of levels, indices and widths.
func edgeTiles() []api.Tile {
	indices := []uint64{0, 1, 2, 255, 256, 999, 1000, 1 << 32, 1<<63 - 1, 1 << 63, greatest - 1, greatest}
	for shift := 0; shift <= 56; shift++ {
		indices = append(indices, 1<<shift-1, 1<<shift, 1<<shift+1)
	}
	widths := []int{math.MinInt, -256, -1, 0, 1, 2, 127, 128, 129, 255, 256, 257, 512, 1 << 32, 1<<32 + 1, math.MaxInt}
	var all []api.Tile
	for _, level := range []uint8{0, 1, 2, 3, 4, 5, 6, 7, 8, 9, 15, 31, 32, 63, 64, 128, 254, 255} {
		for _, index := range indices {
			for _, width := range widths {
				all = append(all, tileAt(level, index, width))
			}
		}
	}
	return all
}

func TestTileAtTheEdges(t *testing.T) {
	hashes := someHashes(1, 256)
	for _, x := range edgeTiles() {
		s := newStore(t)
		r := made(t, s, 3)
		if !wantMayBe(x) {
			checkNoTile(t, r, x, api.ErrArg)
			checkCounts(t, r, 0, 0)
			checkReads(t, s, 0)
			continue
		}
		own := laid{x, hashes[256-x.Width:]}
		checkNoTile(t, r, x, api.ErrCorrupt)
		lay(t, s, []laid{own})
		checkHad(t, r, own, false)
		checkHad(t, r, own, true)
		checkCounts(t, r, 3, 1)
		checkReads(t, s, 2)
	}
}

// TestTileThatMayNotBe: it is refused ahead of all that the cache or the store could say.
func TestTileThatMayNotBe(t *testing.T) {
	h := logRows(300)
	s := storeOf(t, h)
	r := made(t, s, 2)
	checkTile(t, r, tileAt(0, 0, 256), h[0][:256])
	wrong := []api.Tile{tileAt(0, 0, 0), tileAt(0, 0, -1), tileAt(0, 0, 257), tileAt(8, 0, 1), tileAt(255, 0, 256), tileAt(7, 0, 129), tileAt(7, 1, 1), tileAt(0, 1<<55, 1), tileAt(0, 1<<56, 256), tileAt(0, greatest, 256), {}}
	check := func(asked, had int) {
		t.Helper()
		reads, _ := s.Counts()
		for _, x := range wrong {
			checkNoTile(t, r, x, api.ErrArg)
			checkCounts(t, r, asked, had)
			checkReads(t, s, reads)
		}
	}
	check(1, 0)
	restart(t, s, 0, 1)
	check(1, 0)
	checkNoTile(t, r, tileAt(0, 1, 44), api.ErrUnavailable) // the read that fails was still to come
	crash(t, s)
	check(2, 0)
	checkTile(t, r, tileAt(0, 0, 256), h[0][:256])
	check(3, 1)
}

func TestTileOfAllThatLies(t *testing.T) {
	for _, n := range []int{1, 2, 3, 255, 256, 257, 300, 511, 512, 513, 65535, 65536, 65537, 65793} {
		h := logRows(n)
		all := tilesOf(h)
		for _, capacity := range []int{0, 1, len(all), 1024} {
			s := storeOf(t, h)
			r := made(t, s, min(capacity, 1024))
			for i, l := range all {
				checkTile(t, r, l.tile, l.hashes)
				checkCounts(t, r, i+1, 0)
				checkReads(t, s, i+1)
			}
			again := 0 // how many of them are had the second time
			if capacity >= len(all) {
				again = len(all)
			}
			if n == 1 && capacity > 0 {
				again = 1
			}
			for _, l := range all {
				checkTile(t, r, l.tile, l.hashes)
			}
			checkCounts(t, r, 2*len(all), again)
			checkReads(t, s, 2*len(all)-again)
		}
	}
}

func TestTileThatDoesNotLie(t *testing.T) {
	h := logRows(300)
	for _, capacity := range []int{0, 1, 4} {
		s := storeOf(t, h)
		r := made(t, s, capacity)
		for i, x := range []api.Tile{
			tileAt(0, 0, 255), tileAt(0, 0, 1), tileAt(0, 0, 44), tileAt(0, 1, 43), tileAt(0, 1, 45), tileAt(0, 1, 256), tileAt(0, 2, 1), tileAt(0, 2, 44), tileAt(0, 1000, 1),
			tileAt(1, 0, 2), tileAt(1, 0, 256), tileAt(1, 1, 1), tileAt(2, 0, 1), tileAt(2, 0, 256), tileAt(7, 0, 128), tileAt(0, 1<<55-1, 256), tileAt(0, 0, 255),
		} {
			checkNoTile(t, r, x, api.ErrCorrupt)
			checkCounts(t, r, i+1, 0)
			checkReads(t, s, i+1)
		}
		checkTile(t, r, tileAt(0, 0, 256), h[0][:256])
	}
}

// TestTextsThatAreRefused: of each width all lengths near its own, and no such text is kept.
func TestTextsThatAreRefused(t *testing.T) {
	hashes := someHashes(2, 257)
	long := bytesOf(hashes) + strings.Repeat("z", 10000)
	for _, width := range []int{1, 2, 44, 128, 255, 256} {
		x := tileAt(0, 7, width)
		s := newStore(t)
		r := made(t, s, 2)
		asked := 0
		for _, length := range []int{0, 1, 31, 32, 33, width, 32*width - 32, 32*width - 1, 32*width + 1, 32*width + 31, 32*width + 32, 64 * width, 8191, 8192, 8193, len(long)} {
			if length == 32*width || length > len(long) {
				continue
			}
			put(t, s, x, long[:length])
			restart(t, s, 0)
			for i := range 2 {
				checkNoTile(t, r, x, api.ErrCorrupt)
				asked++
				checkCounts(t, r, asked, 0)
				checkReads(t, s, i+1)
			}
		}
		put(t, s, x, long[:32*width])
		checkTile(t, r, x, hashes[:width])
		checkTile(t, r, x, hashes[:width])
		checkCounts(t, r, asked+2, 1)
	}
}

// TestTilesThatAreNearlyTheSame: each by itself, in the store and in the cache.
func TestTilesThatAreNearlyTheSame(t *testing.T) {
	var all []laid
	for _, level := range []uint8{0, 1, 6} {
		for _, index := range []uint64{0, 1, 10, 100, 1000, 1001} {
			for _, width := range []int{1, 2, 44, 255, 256} {
				x := tileAt(level, index, width)
				if wantMayBe(x) {
					all = append(all, laid{x, someHashes(int64(100+len(all)), width)})
				}
			}
		}
	}
	s := newStore(t)
	lay(t, s, all)
	r := made(t, s, len(all))
	for _, l := range all {
		checkHad(t, r, l, false)
	}
	for _, l := range all {
		checkHad(t, r, l, true)
	}
	checkReads(t, s, len(all))
}

func TestFailedReads(t *testing.T) {
	h := logRows(300)
	l := laid{tileAt(0, 1, 44), h[0][256:]}
	for _, capacity := range []int{0, 1, 2} {
		s := storeOf(t, h)
		r := made(t, s, capacity)
		restart(t, s, 0, 1, 2, 3, 5)
		for i := range 3 {
			checkNoTile(t, r, l.tile, api.ErrUnavailable)
			checkCounts(t, r, i+1, 0)
			checkReads(t, s, i+1)
		}
		checkHad(t, r, l, false)
		if capacity == 0 {
			checkNoTile(t, r, l.tile, api.ErrUnavailable)
			checkHad(t, r, l, false)
			checkCounts(t, r, 6, 0)
			checkReads(t, s, 6)
			continue
		}
		checkHad(t, r, l, true)
		checkHad(t, r, l, true)
		checkCounts(t, r, 6, 2)
		checkReads(t, s, 4)
	}
}

// TestAFailedReadOfWhatDoesNotLie: whether anything lies there is not known then.
func TestAFailedReadOfWhatDoesNotLie(t *testing.T) {
	s := storeOf(t, logRows(300))
	r := made(t, s, 2)
	put(t, s, tileAt(0, 9, 2), "no tile")
	restart(t, s, 0, 1, 3)
	for _, x := range []api.Tile{tileAt(0, 8, 2), tileAt(0, 9, 2)} {
		checkNoTile(t, r, x, api.ErrUnavailable)
		checkNoTile(t, r, x, api.ErrCorrupt)
	}
	checkCounts(t, r, 4, 0)
	checkReads(t, s, 4)
}

func TestADeadStore(t *testing.T) {
	h := logRows(300)
	all := tilesOf(h)
	s := storeOf(t, h)
	r := made(t, s, 2)
	checkHad(t, r, all[0], false)
	checkHad(t, r, all[1], false)
	crash(t, s)
	for i := range 3 {
		checkHad(t, r, all[0], true)
		checkNoTile(t, r, all[2].tile, api.ErrDead)
		checkNoTile(t, r, tileAt(0, 1, 45), api.ErrDead) // ahead of what lies there, or does not
		checkHad(t, r, all[1], true)
		checkCounts(t, r, 2+4*(i+1), 2*(i+1))
	}
	checkReads(t, s, 0)
	r.Forget()
	checkNoTile(t, r, all[0].tile, api.ErrDead)
	restart(t, s, 0)
	checkHad(t, r, all[0], false)
	checkHad(t, r, all[2], false)
	checkReads(t, s, 2)
	checkCounts(t, r, 17, 6)
}

// TestWhatIsKeptIsNotReadAgain: until it is forgotten, whatever lies in the store by then.
func TestWhatIsKeptIsNotReadAgain(t *testing.T) {
	h := logRows(300)
	s := storeOf(t, h)
	r := made(t, s, 1)
	old, anew := laid{tileAt(0, 1, 44), h[0][256:]}, laid{tileAt(0, 1, 44), someHashes(3, 44)}
	checkHad(t, r, old, false)
	lay(t, s, []laid{anew})
	checkHad(t, r, old, true)
	checkNode(t, r, tree(0, 299), 300, old.hashes[43])
	put(t, s, old.tile, "no tile")
	checkHad(t, r, old, true)
	r.Forget()
	checkNoTile(t, r, old.tile, api.ErrCorrupt)
	lay(t, s, []laid{anew})
	checkHad(t, r, anew, false)
	checkHad(t, r, anew, true)
	checkNode(t, r, tree(0, 299), 300, anew.hashes[43])
}

// Which tile goes.

// singles: so many tiles of one hash each.
func singles(count int) []laid {
	hashes := someHashes(4, count)
	all := make([]laid, count)
	for i := range all {
		all[i] = laid{tileAt(0, uint64(i), 1), hashes[i : i+1]}
	}
	return all
}

func TestCapacityNone(t *testing.T) {
	all := singles(3)
	s := newStore(t)
	lay(t, s, all)
	r := made(t, s, 0)
	for i := range 12 {
		checkHad(t, r, all[i/2%3], false)
		checkReads(t, s, i+1)
	}
	for i := range 12 {
		checkNode(t, r, tree(0, 0), 1, all[0].hashes[0])
		checkReads(t, s, 13+i)
	}
	checkCounts(t, r, 24, 0)
}

func TestCapacityOne(t *testing.T) {
	all := singles(3)
	s := newStore(t)
	lay(t, s, all)
	r := made(t, s, 1)
	for _, c := range []struct {
		tile int
		had  bool
	}{{0, false}, {0, true}, {1, false}, {1, true}, {0, false}, {1, false}, {2, false}, {1, false}, {1, true}, {1, true}, {2, false}} {
		checkHad(t, r, all[c.tile], c.had)
	}
	checkCounts(t, r, 11, 4)
	checkReads(t, s, 7)
}

func TestCapacityTwo(t *testing.T) {
	all := singles(4)
	s := newStore(t)
	lay(t, s, all)
	r := made(t, s, 2)
	for _, c := range []struct {
		tile int
		had  bool
	}{
		{0, false}, {1, false}, {0, true}, {2, false}, // 1 goes: 0 was used behind it
		{0, true}, {1, false}, // 2 goes
		{0, true}, {2, false}, // 1 goes
		{2, true}, {0, true}, {3, false}, // 2 goes
		{0, true}, {2, false}, // 3 goes
		{3, false},            // 0 goes
		{2, true}, {0, false}, // 3 goes
		{3, false}, {2, false},
	} {
		checkHad(t, r, all[c.tile], c.had)
	}
}

func TestTheGreatestCapacity(t *testing.T) {
	all := singles(1025)
	s := newStore(t)
	lay(t, s, all)
	restart(t, s, 0)
	r := made(t, s, 1024)
	for _, l := range all[:1024] {
		checkHad(t, r, l, false)
	}
	for _, l := range all[:1024] {
		checkHad(t, r, l, true)
	}
	checkHad(t, r, all[1024], false) // the first one goes
	for _, l := range slices.Backward(all[1:]) {
		checkHad(t, r, l, true)
	}
	checkHad(t, r, all[0], false)
	checkHad(t, r, all[1024], false)
	checkReads(t, s, 1027)
}

// TestWhatIsRefusedMovesNothing: neither a tile goes, nor another one than before is the next to go.
func TestWhatIsRefusedMovesNothing(t *testing.T) {
	all := singles(3)
	for name, refuse := range map[string]func(t *testing.T, s *store.Store, r *reader.Reader){
		"a tile that may not be": func(t *testing.T, s *store.Store, r *reader.Reader) {
			checkNoTile(t, r, tileAt(0, 0, 0), api.ErrArg)
		},
		"a tree that is not there": func(t *testing.T, s *store.Store, r *reader.Reader) {
			checkNoNode(t, r, tree(0, 0), 0, api.ErrRange)
			checkNoNode(t, r, tree(1, 0), 1, api.ErrRange)
		},
		"a tile that does not lie": func(t *testing.T, s *store.Store, r *reader.Reader) {
			checkNoTile(t, r, tileAt(0, 9, 1), api.ErrCorrupt)
		},
		"a text that is no tile": func(t *testing.T, s *store.Store, r *reader.Reader) {
			put(t, s, tileAt(0, 9, 1), "no tile")
			checkNoTile(t, r, tileAt(0, 9, 1), api.ErrCorrupt)
		},
		"a tree whose tile does not lie": func(t *testing.T, s *store.Store, r *reader.Reader) {
			checkNoNode(t, r, tree(0, 0), 2, api.ErrCorrupt)
		},
		"a read that fails": func(t *testing.T, s *store.Store, r *reader.Reader) {
			restart(t, s, 0, 1)
			checkNoTile(t, r, all[2].tile, api.ErrUnavailable)
		},
		"a dead store": func(t *testing.T, s *store.Store, r *reader.Reader) {
			crash(t, s)
			checkNoTile(t, r, all[2].tile, api.ErrDead)
			restart(t, s, 0)
		},
	} {
		t.Run(name, func(t *testing.T) {
			s := newStore(t)
			lay(t, s, all)
			r := made(t, s, 2)
			checkHad(t, r, all[0], false)
			checkHad(t, r, all[1], false)
			for range 3 {
				refuse(t, s, r)
			}
			checkHad(t, r, all[2], false) // 0 goes
			checkHad(t, r, all[1], true)
			checkHad(t, r, all[2], true)
			checkHad(t, r, all[0], false)
		})
	}
}

// P14.3

// checkAllNodes: each whole tree of the log, and of each level the first ones that it does not have.
func checkAllNodes(t *testing.T, r *reader.Reader, h [][]api.Hash) {
	t.Helper()
	size := uint64(len(h[0]))
	asked, _ := r.Counts()
	for level, row := range h {
		for i, want := range row {
			checkNode(t, r, tree(uint8(level), uint64(i)), size, want)
		}
		asked += len(row)
	}
	for level := range 256 {
		first := uint64(0)
		if level < len(h) {
			first = uint64(len(h[level]))
		}
		for _, index := range []uint64{first, first + 1, first + 2, first + 255, first + 256, 1 << 56, 1 << 62, mostLeaves, greatest} {
			checkNoNode(t, r, tree(uint8(level), index), size, api.ErrRange)
		}
	}
	if a, _ := r.Counts(); a != asked {
		t.Fatalf("%d tiles were asked for, want %d", a, asked)
	}
}

func TestNodesOfSmallLogs(t *testing.T) {
	for _, n := range []int{1, 2, 3, 4, 5, 6, 7, 8, 9, 127, 128, 129, 255, 256, 257, 258, 300, 511, 512, 513, 768, 1000} {
		h := logRows(n)
		for _, capacity := range []int{0, 1, 2, 1024} {
			s := storeOf(t, h)
			r := made(t, s, capacity)
			checkAllNodes(t, r, h)
			asked, had := r.Counts()
			checkReads(t, s, asked-had)
			if capacity == 0 && had != 0 {
				t.Fatal("with a capacity of 0 a tile was had")
			}
			if capacity == 1024 && asked-had != len(tilesOf(h)) {
				t.Fatalf("of %d tiles of a log of %d leaves %d were read", len(tilesOf(h)), n, asked-had)
			}
		}
	}
}

func TestNodesOfGreatLogs(t *testing.T) {
	for _, n := range []int{65535, 65536, 65537, 65793, 131072 + 300} {
		h := logRows(n)
		s := storeOf(t, h)
		r := made(t, s, 3)
		checkAllNodes(t, r, h)
		asked, had := r.Counts()
		checkReads(t, s, asked-had)
	}
}

// wantTile: by the words of chapter 11: in which tile of a log of so many leaves the hashes of a tree stand.
func wantTile(c api.Coord, size uint64) api.Tile {
	first := c.Index << (c.Level % 8)
	level := c.Level / 8
	index := first / 256
	return tileAt(level, index, int(min(256, size>>(8*level)-256*index)))
}

// TestNodesOfOtherSizes: a size that is not the log's asks for other tiles, which lie there just if the log has them too.
func TestNodesOfOtherSizes(t *testing.T) {
	const n = 300
	h := logRows(n)
	there := map[api.Tile]bool{}
	for _, l := range tilesOf(h) {
		there[l.tile] = true
	}
	s := storeOf(t, h)
	r := made(t, s, 4)
	for size := uint64(0); size <= 2*n; size++ {
		for level := range uint8(10) {
			for index := range uint64(2*n>>level + 2) {
				c := tree(level, index)
				switch {
				case (index+1)<<level > size:
					checkNoNode(t, r, c, size, api.ErrRange)
				case there[wantTile(c, size)]:
					checkNode(t, r, c, size, h[level][index])
				default:
					checkNoNode(t, r, c, size, api.ErrCorrupt)
				}
			}
		}
	}
}

// TestNodesOfALogThatGrew: where the tiles of all sizes lie, each node of each size is answered.
func TestNodesOfALogThatGrew(t *testing.T) {
	const n = 520
	h := logRows(n)
	s := newStore(t)
	for size := 1; size <= n; size++ {
		lay(t, s, tilesOf(rows(h[0][:size])))
	}
	r := made(t, s, 2)
	for size := uint64(1); size <= n; size++ {
		for level, row := range h {
			for index := range size >> level {
				checkNode(t, r, tree(uint8(level), index), size, row[index])
			}
			checkNoNode(t, r, tree(uint8(level), size>>level), size, api.ErrRange)
		}
	}
}

// wantRange: the chapter's words, in numbers without end.
func wantRange(c api.Coord, size uint64) bool {
	if c.Level > 63 || size > mostLeaves {
		return false
	}
	end := new(big.Int).SetUint64(c.Index)
	end.Add(end, big.NewInt(1))
	end.Lsh(end, uint(c.Level))
	return end.Cmp(new(big.Int).SetUint64(size)) <= 0
}

// checkGreat: one tree in one size: the tile that it needs, and no other one, lies there for this.
func checkGreat(t *testing.T, hashes []api.Hash, c api.Coord, size uint64) {
	t.Helper()
	s := newStore(t)
	r := made(t, s, 1)
	if !wantRange(c, size) {
		checkNoNode(t, r, c, size, api.ErrRange)
		checkCounts(t, r, 0, 0)
		checkReads(t, s, 0)
		return
	}
	checkNoNode(t, r, c, size, api.ErrCorrupt)
	x := wantTile(c, size)
	put(t, s, x, bytesOf(hashes[:x.Width]))
	first := int(c.Index << (c.Level % 8) % 256)
	checkNode(t, r, c, size, wantOver(hashes[first:first+1<<(c.Level%8)]))
	checkNode(t, r, c, size, wantOver(hashes[first:first+1<<(c.Level%8)]))
	checkCounts(t, r, 3, 1)
	checkReads(t, s, 2)
}

func TestNodesOfGreatSizes(t *testing.T) {
	hashes := someHashes(5, 256)
	sizes := []uint64{0, 1, 255, 256, 257, 1 << 32, 1<<56 - 1, 1 << 56, 1<<62 - 1, 1 << 62, 1<<62 + 1, 3 << 61, mostLeaves - 257, mostLeaves - 256, mostLeaves - 2, mostLeaves - 1, mostLeaves, mostLeaves + 1, mostLeaves + 256, 3 << 62, greatest - 255, greatest - 1, greatest}
	for _, size := range sizes {
		for level := range 70 {
			for _, index := range []uint64{0, 1, 2, 127, 128, 255, 256, size>>level - 2, size>>level - 1, size >> level, size>>level + 1, mostLeaves>>level - 1, mostLeaves >> level, 1 << 55, 1 << 56, mostLeaves - 1, mostLeaves, greatest} {
				checkGreat(t, hashes, tree(uint8(level), index), size)
			}
		}
		for _, level := range []uint8{127, 128, 192, 254, 255} {
			checkGreat(t, hashes, tree(level, 0), size)
			checkGreat(t, hashes, tree(level, greatest), size)
		}
	}
}

func TestNodeAndTileShareTheCache(t *testing.T) {
	h := logRows(300)
	all := tilesOf(h)
	s := storeOf(t, h)
	r := made(t, s, 2)
	checkNode(t, r, tree(0, 0), 300, h[0][0])
	checkCounts(t, r, 1, 0)
	checkHad(t, r, all[0], true)
	checkNode(t, r, tree(7, 1), 300, h[7][1])
	checkCounts(t, r, 3, 2)
	checkHad(t, r, all[1], false)
	checkNode(t, r, tree(3, 5), 300, h[3][5]) // 0 is the newest now
	checkCounts(t, r, 5, 3)
	checkHad(t, r, all[2], false) // 1 goes
	checkNode(t, r, tree(0, 255), 300, h[0][255])
	checkCounts(t, r, 7, 4)
	checkHad(t, r, all[1], false)
	checkReads(t, s, 4)
}

func TestNodeOfTrouble(t *testing.T) {
	h := logRows(300)
	s := storeOf(t, h)
	r := made(t, s, 2)
	leaf := tree(0, 299)
	restart(t, s, 0, 1, 2)
	checkNoNode(t, r, leaf, 300, api.ErrUnavailable)
	checkNoNode(t, r, leaf, 300, api.ErrUnavailable)
	checkCounts(t, r, 2, 0)
	checkReads(t, s, 2)
	checkNode(t, r, leaf, 300, h[0][299])
	checkNode(t, r, leaf, 300, h[0][299])
	checkCounts(t, r, 4, 1)
	checkReads(t, s, 3)
	checkNoNode(t, r, leaf, 301, api.ErrCorrupt) // no tile of 45 lies there
	checkCounts(t, r, 5, 1)
	put(t, s, tileAt(0, 1, 45), bytesOf(someHashes(6, 44)))
	checkNoNode(t, r, leaf, 301, api.ErrCorrupt)
	checkCounts(t, r, 6, 1)
	checkReads(t, s, 5)
	crash(t, s)
	checkNode(t, r, leaf, 300, h[0][299])
	checkNoNode(t, r, tree(8, 0), 300, api.ErrDead)
	checkNoNode(t, r, leaf, 301, api.ErrDead)
	checkNoNode(t, r, tree(0, 300), 300, api.ErrRange)
	checkNoNode(t, r, leaf, mostLeaves+1, api.ErrRange)
	checkCounts(t, r, 9, 2)
	checkReads(t, s, 0)
	restart(t, s, 0)
	checkNode(t, r, tree(8, 0), 300, h[8][0])
	checkCounts(t, r, 10, 2)
}

// TestAnyReadFails: whichever it is, that one query says so, and all others are answered.
func TestAnyReadFails(t *testing.T) {
	h := logRows(300)
	for _, capacity := range []int{0, 1, 3} {
		for fail := 1; fail <= 40; fail++ {
			s := storeOf(t, h)
			r := made(t, s, capacity)
			restart(t, s, 0, fail)
			failed := 0
			for step := range 60 {
				level := step * 7 % 9
				index := step * 31 % len(h[level])
				before, _ := s.Counts()
				got, err := r.Node(tree(uint8(level), uint64(index)), 300)
				after, _ := s.Counts()
				if before < fail && after >= fail {
					failed++
					if got != (api.Hash{}) || !isOnly(err, api.ErrUnavailable) {
						t.Fatalf("the read %d fails: %x, %v", fail, got, err)
					}
				} else if err != nil || got != h[level][index] {
					t.Fatalf("the read %d is not this one: %x, %v", fail, got, err)
				}
			}
			if capacity == 0 && failed != 1 {
				t.Fatalf("the read %d failed %d times", fail, failed)
			}
		}
	}
}

// P14.4

func TestForget(t *testing.T) {
	all := singles(3)
	s := newStore(t)
	lay(t, s, all)
	for _, capacity := range []int{0, 1, 2, 3, 1024} {
		restart(t, s, 0)
		r := made(t, s, capacity)
		r.Forget()
		checkCounts(t, r, 0, 0)
		for range 2 {
			for _, l := range all {
				checkHad(t, r, l, false)
			}
			asked, had := r.Counts()
			reads, _ := s.Counts()
			r.Forget()
			r.Forget()
			checkCounts(t, r, asked, had)
			checkReads(t, s, reads)
		}
		for i, l := range all { // the capacity is what it was: the last ones are kept, as many as it says
			checkHad(t, r, l, false)
			for j := max(0, i+1-capacity); j <= i && capacity > 0; j++ {
				checkHad(t, r, all[j], true)
			}
		}
		if capacity > 0 && capacity < 3 {
			checkHad(t, r, all[2-capacity], false)
		}
	}
}

func TestForgetAndCountsAtAnyTime(t *testing.T) {
	h := logRows(300)
	all := tilesOf(h)
	s := storeOf(t, h)
	r := made(t, s, 3)
	checkHad(t, r, all[0], false)
	restart(t, s, 0, 2)
	checkHad(t, r, all[1], false)
	checkNoTile(t, r, all[2].tile, api.ErrUnavailable)
	r.Forget()
	checkCounts(t, r, 3, 0)
	checkHad(t, r, all[1], false)
	crash(t, s)
	checkCounts(t, r, 4, 0)
	checkHad(t, r, all[1], true)
	r.Forget()
	if !s.Dead() {
		t.Fatal("Forget makes the store alive")
	}
	checkCounts(t, r, 5, 1)
	checkNoTile(t, r, all[1].tile, api.ErrDead)
	checkCounts(t, r, 6, 1)
	restart(t, s, 0)
	checkCounts(t, r, 6, 1)
	checkHad(t, r, all[1], false)
	for range 3 {
		checkCounts(t, r, 7, 1)
	}
}

// R3

func TestReadersThatAreNotThere(t *testing.T) {
	for _, r := range []*reader.Reader{nil, {}} {
		for range 2 {
			for _, x := range []api.Tile{{}, tileAt(0, 0, 1), tileAt(0, 1, 44), tileAt(8, 0, 1), tileAt(255, greatest, math.MinInt)} {
				checkNoTile(t, r, x, api.ErrNil)
			}
			for _, c := range []api.Coord{{}, tree(0, 299), tree(63, 0), tree(64, 0), tree(255, greatest)} {
				for _, size := range []uint64{0, 1, 300, mostLeaves, mostLeaves + 1, greatest} {
					checkNoNode(t, r, c, size, api.ErrNil)
				}
			}
			r.Forget()
			checkCounts(t, r, 0, 0)
		}
	}
}

// R4

// spoil: all that a list's memory has, and what is behind its end.
func spoil(l []api.Hash) {
	l = l[:cap(l)]
	for i := range l {
		l[i] = api.Hash{0xee, byte(i)}
	}
	_ = append(l[:0], someHashes(7, cap(l)+1)...)
	if cap(l) > 0 {
		_ = append(l[:cap(l)-1], api.Hash{0xdd})
	}
}

func TestAnswersAreMemoryOfTheirOwn(t *testing.T) {
	h := logRows(300)
	for _, capacity := range []int{0, 1, 2, 1024} {
		for _, x := range tilesOf(h) {
			s := storeOf(t, h)
			r := made(t, s, capacity)
			c := tree(8*x.tile.Level, 256*x.tile.Index)
			var answers [][]api.Hash
			for range 4 {
				l, err := r.Tile(x.tile)
				if err != nil || !slices.Equal(l, x.hashes) {
					t.Fatalf("Tile(%v): %v", x.tile, err)
				}
				answers = append(answers, l)
			}
			for i, l := range answers {
				spoil(l)
				for _, other := range answers[i+1:] {
					if !slices.Equal(other, x.hashes) {
						t.Fatal("two answers share memory")
					}
				}
				checkTile(t, r, x.tile, x.hashes)
				checkNode(t, r, c, 300, x.hashes[0])
				spoil(append(answers[i], api.Hash{}))
				checkTile(t, r, x.tile, x.hashes)
			}
			restart(t, s, 0)
			checkTile(t, made(t, s, capacity), x.tile, x.hashes) // what lies in the store is what it was
		}
	}
}

func TestLaterCallsTurnNoAnswer(t *testing.T) {
	h := logRows(700)
	all := tilesOf(h)
	s := storeOf(t, h)
	for _, capacity := range []int{0, 1, 2} {
		r := made(t, s, capacity)
		l, err := r.Tile(all[0].tile)
		if err != nil {
			t.Fatal(err)
		}
		for i := range 3 {
			for _, x := range all {
				checkTile(t, r, x.tile, x.hashes)
			}
			put(t, s, all[0].tile, bytesOf(someHashes(int64(i), 256)))
			r.Forget()
			if _, err := r.Tile(all[0].tile); err != nil {
				t.Fatal(err)
			}
			if !slices.Equal(l, all[0].hashes) {
				t.Fatal("a later call turns an answer")
			}
			put(t, s, all[0].tile, bytesOf(all[0].hashes))
			r.Forget()
		}
	}
}

// R5, and the store that is shared

func TestTwoReadersOfOneStore(t *testing.T) {
	all := singles(3)
	s := newStore(t)
	lay(t, s, all)
	one, two := made(t, s, 2), made(t, s, 1)
	checkHad(t, one, all[0], false)
	checkHad(t, two, all[0], false)
	checkHad(t, two, all[1], false)
	checkHad(t, one, all[0], true)
	checkHad(t, one, all[1], false)
	checkHad(t, two, all[1], true)
	two.Forget()
	checkHad(t, one, all[0], true)
	checkHad(t, two, all[1], false)
	checkCounts(t, one, 4, 2)
	checkCounts(t, two, 4, 1)
	checkReads(t, s, 5)
	restart(t, s, 0, 1)
	checkNoTile(t, one, all[2].tile, api.ErrUnavailable)
	checkHad(t, two, all[2], false) // the first read was the other one's
}

func TestReadersOfTwoStores(t *testing.T) {
	all, other := singles(2), singles(2)
	other[0].hashes = someHashes(8, 1)
	s, o := newStore(t), newStore(t)
	lay(t, s, all)
	lay(t, o, other)
	one, two := made(t, s, 2), made(t, o, 2)
	for i := range 2 {
		checkHad(t, one, all[0], i > 0)
		checkHad(t, two, other[0], i > 0)
	}
	crash(t, s)
	checkNoTile(t, one, all[1].tile, api.ErrDead)
	checkHad(t, two, other[1], false)
	checkReads(t, s, 0)
	checkReads(t, o, 2)
}

// TestOthersUseTheStore: put to, restarted and read between a reader's calls.
func TestOthersUseTheStore(t *testing.T) {
	h := logRows(300)
	all := tilesOf(h)
	s := storeOf(t, h)
	r := made(t, s, 1)
	get := func(name string, want error) {
		t.Helper()
		if _, err := s.Get(name); !isOnly(err, want) {
			t.Fatalf("Get(%q): %v, want %v", name, err, want)
		}
	}
	restart(t, s, 0, 2, 4)
	get("checkpoint", api.ErrGone)
	checkNoTile(t, r, all[0].tile, api.ErrUnavailable) // the second read
	get(nameOf(t, all[0].tile), nil)
	get(nameOf(t, all[0].tile), api.ErrUnavailable) // the fourth was not the reader's
	checkHad(t, r, all[0], false)
	checkReads(t, s, 5)
	checkCounts(t, r, 2, 0)

	checkNoTile(t, r, tileAt(0, 1, 45), api.ErrCorrupt)
	grown := laid{tileAt(0, 1, 45), append(slices.Clone(all[1].hashes), api.Hash{9})}
	lay(t, s, []laid{grown})
	checkHad(t, r, grown, false)
	checkHad(t, r, all[1], false)
	checkNode(t, r, tree(0, 300), 301, api.Hash{9})
	checkCounts(t, r, 6, 0)

	restart(t, s, -1) // the write is done, and the store has crashed
	if err := s.Put(nameOf(t, tileAt(0, 1, 46)), bytesOf(someHashes(9, 46))); !errors.Is(err, api.ErrDead) {
		t.Fatal(err)
	}
	checkHad(t, r, grown, true)
	checkNoTile(t, r, tileAt(0, 1, 46), api.ErrDead)
	restart(t, s, 0)
	checkHad(t, r, grown, true)
	checkHad(t, r, laid{tileAt(0, 1, 46), someHashes(9, 46)}, false)
	checkCounts(t, r, 10, 2)
	checkReads(t, s, 1)
}

// Readers held against a plain one.

// plain is a reader by the chapter's words, over a store of its own that is given the same as the other one: its cache is a list, the newest first, gone through from its beginning on.
type plain struct {
	store      *store.Store
	capacity   int
	kept       []laid
	asked, had int
	refused    int // Gets that were refused as the store was dead
	reads      int
}

func (p *plain) tile(x api.Tile) ([]api.Hash, error) {
	if !wantMayBe(x) {
		return nil, api.ErrArg
	}
	p.asked++
	if i := slices.IndexFunc(p.kept, func(l laid) bool { return l.tile == x }); i >= 0 {
		p.had++
		found := p.kept[i]
		p.kept = slices.Insert(slices.Delete(p.kept, i, i+1), 0, found)
		return found.hashes, nil
	}
	name, err := tile.Path(x)
	if err != nil {
		return nil, err
	}
	if p.store.Dead() {
		p.refused++
		return nil, api.ErrDead
	}
	p.reads++
	text, err := p.store.Get(name)
	if err == api.ErrUnavailable {
		return nil, err
	}
	if err != nil || len(text) != 32*x.Width {
		return nil, api.ErrCorrupt
	}
	var hashes []api.Hash
	for at := 0; at < len(text); at += 32 {
		hashes = append(hashes, api.Hash([]byte(text[at:at+32])))
	}
	p.kept = slices.Insert(p.kept, 0, laid{x, hashes})
	p.kept = p.kept[:min(len(p.kept), p.capacity)]
	return hashes, nil
}

func (p *plain) node(c api.Coord, size uint64) (api.Hash, error) {
	if !wantRange(c, size) {
		return api.Hash{}, api.ErrRange
	}
	hashes, err := p.tile(wantTile(c, size))
	if err != nil {
		return api.Hash{}, err
	}
	first := int(c.Index << (c.Level % 8) % 256)
	return wantOver(hashes[first : first+1<<(c.Level%8)]), nil
}

// both are a reader and a plain one, to which the same is done.
type both struct {
	t *testing.T
	s *store.Store
	r *reader.Reader
	p *plain
}

func (b *both) tile(x api.Tile) {
	b.t.Helper()
	want, wantErr := b.p.tile(x)
	if got, err := b.r.Tile(x); !slices.Equal(got, want) || !isOnly(err, wantErr) {
		b.t.Fatalf("Tile(%v): %d hashes, %v; want %d, %v", x, len(got), err, len(want), wantErr)
	} else {
		spoil(got)
	}
}

func (b *both) node(c api.Coord, size uint64) {
	b.t.Helper()
	want, wantErr := b.p.node(c, size)
	if got, err := b.r.Node(c, size); got != want || !isOnly(err, wantErr) {
		b.t.Fatalf("Node(%v, %d) = %x, %v; want %x, %v", c, size, got, err, want, wantErr)
	}
}

func (b *both) put(name, text string) {
	b.t.Helper()
	if err, want := b.s.Put(name, text), b.p.store.Put(name, text); err != want {
		b.t.Fatalf("Put(%q): %v, want %v", name, err, want)
	}
}

func (b *both) restart(x api.Trouble) {
	b.t.Helper()
	if err, want := b.s.Restart(x), b.p.store.Restart(x); err != want {
		b.t.Fatalf("Restart(%v): %v, want %v", x, err, want)
	}
}

// check: all that both tell without being asked for a tile, and what follows by P14.5.
func (b *both) check() {
	b.t.Helper()
	checkCounts(b.t, b.r, b.p.asked, b.p.had)
	reads, writes := b.s.Counts()
	if r, w := b.p.store.Counts(); r != reads || w != writes || b.s.Dead() != b.p.store.Dead() {
		b.t.Fatalf("the store counts %d, %d, want %d, %d; dead: %v, want %v", reads, writes, r, w, b.s.Dead(), b.p.store.Dead())
	}
	if b.p.asked-b.p.had != b.p.reads+b.p.refused || b.p.capacity == 0 && b.p.had != 0 {
		b.t.Fatalf("asked for %d, had %d, reads %d, refused %d", b.p.asked, b.p.had, b.p.reads, b.p.refused)
	}
}

// someTile: mostly one of a few that lie there.
func someTile(rnd *rand.Rand, all []laid) api.Tile {
	x := all[rnd.Intn(len(all))].tile
	switch rnd.Intn(8) {
	case 0:
		x.Width += rnd.Intn(3) - 1
	case 1:
		x.Index ^= uint64(rnd.Intn(2))
	case 2:
		x.Level ^= uint8(1 << rnd.Intn(8) & 9)
	}
	return x
}

func someTrouble(rnd *rand.Rand) api.Trouble {
	x := api.Trouble{Crash: rnd.Intn(7) - 3}
	for read := 1; read < 10; read++ {
		if rnd.Intn(4) == 0 {
			x.Reads = append(x.Reads, read)
		}
	}
	return x
}

func (b *both) step(rnd *rand.Rand, all []laid, leaves int) {
	b.t.Helper()
	switch rnd.Intn(20) {
	case 0:
		b.r.Forget()
		b.p.kept = nil
	case 1:
		b.restart(someTrouble(rnd))
	case 2:
		l := all[rnd.Intn(len(all))]
		b.put(nameOf(b.t, l.tile), bytesOf(l.hashes))
	case 3:
		l := all[rnd.Intn(len(all))]
		b.put(nameOf(b.t, l.tile), bytesOf(someHashes(rnd.Int63(), l.tile.Width-rnd.Intn(2))))
	case 4:
		name := nameOf(b.t, all[rnd.Intn(len(all))].tile)
		b.s.Get(name)
		b.p.store.Get(name)
	case 5, 6, 7, 8, 9, 10:
		size := uint64(leaves + max(0, rnd.Intn(9)-6))
		level := rnd.Intn(11)
		b.node(tree(uint8(level), uint64(rnd.Intn(leaves>>level+2))), size)
	default:
		b.tile(someTile(rnd, all))
	}
	b.check()
}

func TestManyScripts(t *testing.T) {
	for _, leaves := range []int{1, 3, 256, 300, 1300} {
		h := logRows(leaves)
		all := tilesOf(h)
		for seed := range int64(60) {
			capacity := []int{0, 1, 2, 3, 4, 1024}[seed%6]
			s, own := storeOf(t, h), storeOf(t, h)
			b := &both{t, s, made(t, s, capacity), &plain{store: own, capacity: capacity}}
			rnd := rand.New(rand.NewSource(seed))
			for range 150 {
				b.step(rnd, all, leaves)
			}
		}
	}
}

// TestShortScripts: all of them, of five steps each.
func TestShortScripts(t *testing.T) {
	all := singles(3)
	steps := []func(b *both){
		func(b *both) { b.tile(all[0].tile) },
		func(b *both) { b.tile(all[1].tile) },
		func(b *both) { b.tile(all[2].tile) },
		func(b *both) { b.tile(tileAt(0, 3, 1)) },
		func(b *both) { b.node(tree(0, 0), 1) },
		func(b *both) { b.r.Forget(); b.p.kept = nil },
		func(b *both) { b.restart(api.Trouble{Reads: []int{2}, Crash: 1}) },
		func(b *both) { b.put("x", "y") },
	}
	for capacity := 1; capacity <= 2; capacity++ { // with none, nothing is kept from step to step
		for script := range 1 << 15 {
			s, own := newStore(t), newStore(t)
			lay(t, s, all)
			lay(t, own, all)
			b := &both{t, s, made(t, s, capacity), &plain{store: own, capacity: capacity}}
			for rest, i := script, 0; i < 5; rest, i = rest/8, i+1 {
				steps[rest%8](b)
				b.check()
			}
		}
	}
}
