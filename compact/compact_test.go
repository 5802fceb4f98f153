package compact_test

import (
	"crypto/sha256"
	"errors"
	"fmt"
	"math/rand"
	"slices"
	"testing"

	"cartulary/api"
	"cartulary/compact"
	"cartulary/coord"
	"cartulary/hash"
)

const (
	lastEnd  uint64 = 1 << 63
	greatest uint64 = 1<<64 - 1
)

func stretch(begin, end uint64) api.Span { return api.Span{Begin: begin, End: end} }

// tableErrors are the errors of the document's table, in its order.
func tableErrors() []error {
	return []error{
		api.ErrNil, api.ErrArg, api.ErrInput, api.ErrLimit, api.ErrRange, api.ErrGone, api.ErrUnavailable, api.ErrDead,
		api.ErrCorrupt, api.ErrProof, api.ErrSpent, api.ErrSigned, api.ErrFork, api.ErrOld, api.ErrStopped, api.ErrScript,
	}
}

// checkOnly: got is that error of the table, no other one, and tells no place.
func checkOnly(t *testing.T, what string, got, want error) {
	t.Helper()
	for _, e := range tableErrors() {
		if errors.Is(got, e) != (e == want) {
			t.Fatalf("%s: got %v, want %v: errors.Is says %v of %v", what, got, want, errors.Is(got, e), e)
		}
	}
	var f *api.Fault
	if errors.As(got, &f) && f.At != 0 {
		t.Fatalf("%s tells the place %d", what, f.At)
	}
}

func sum(parts ...[]byte) api.Hash { return api.Hash(sha256.Sum256(slices.Concat(parts...))) }

// wantNode: the definition of the document, with the library's SHA-256.
func wantNode(a, b api.Hash) api.Hash { return sum([]byte{1}, a[:], b[:]) }

// wantMTH: the definition of the document, of leaves by their hashes.
func wantMTH(d []api.Hash) api.Hash {
	switch len(d) {
	case 0:
		return sum()
	case 1:
		return d[0]
	}
	k := 1
	for 2*k < len(d) {
		k *= 2
	}
	return wantNode(wantMTH(d[:k]), wantMTH(d[k:]))
}

// wantCover: from the left, the greatest whole tree each time that begins there and ends in the stretch, tried level by level.
func wantCover(s api.Span) []api.Coord {
	var all []api.Coord
	for at := s.Begin; at < s.End; {
		level := 0
		for level < 63 && at%(2<<level) == 0 && 2<<level <= s.End-at {
			level++
		}
		all = append(all, api.Coord{Level: uint8(level), Index: at >> level})
		at += 1 << level
	}
	return all
}

// wantHashes: of the trees of the stretch's cover, where leaf number i has the hash leaves[i].
func wantHashes(s api.Span, leaves []api.Hash) []api.Hash {
	var all []api.Hash
	for _, c := range wantCover(s) {
		begin := c.Index << c.Level
		all = append(all, wantMTH(leaves[begin:begin+1<<c.Level]))
	}
	return all
}

// someHashes: so many, no two the same.
func someHashes(count int) []api.Hash {
	rnd := rand.New(rand.NewSource(9))
	all := make([]api.Hash, count)
	for i := range all {
		rnd.Read(all[i][:])
	}
	return all
}

// appended: the range from begin on to which these were appended, one by one.
func appended(t *testing.T, begin uint64, leaves ...api.Hash) *compact.Range {
	t.Helper()
	r := compact.New(begin)
	appendAll(t, r, leaves)
	return r
}

func appendAll(t *testing.T, r *compact.Range, leaves []api.Hash) {
	t.Helper()
	for _, h := range leaves {
		if err := r.Append(h); err != nil {
			t.Fatalf("Append to %v: %v", r.Span(), err)
		}
	}
}

func loaded(t *testing.T, s api.Span, hashes []api.Hash) *compact.Range {
	t.Helper()
	r, err := compact.Load(s, hashes)
	if r == nil || err != nil {
		t.Fatalf("Load(%v, %d hashes) = %v, %v", s, len(hashes), r, err)
	}
	return r
}

// part: the range of the stretch of these leaves, loaded.
func part(t *testing.T, s api.Span, leaves []api.Hash) *compact.Range {
	t.Helper()
	return loaded(t, s, wantHashes(s, leaves))
}

func joinAll(t *testing.T, r *compact.Range, others ...*compact.Range) {
	t.Helper()
	for _, o := range others {
		if err := r.Join(o); err != nil {
			t.Fatalf("Join of %v and %v: %v", r.Span(), o.Span(), err)
		}
	}
}

// checkRange: that stretch, with these hashes.
func checkRange(t *testing.T, what string, r *compact.Range, s api.Span, hashes []api.Hash) {
	t.Helper()
	if got := r.Span(); got != s {
		t.Fatalf("%s: Span = %v, want %v", what, got, s)
	}
	if got := r.Hashes(); !slices.Equal(got, hashes) {
		t.Fatalf("%s: Hashes = %x, want %x", what, got, hashes)
	}
}

func checkRoot(t *testing.T, what string, r *compact.Range, want api.Hash) {
	t.Helper()
	if got, err := r.Root(); err != nil || got != want {
		t.Fatalf("%s: Root = %x, %v; want %x", what, got, err, want)
	}
}

func checkNoRoot(t *testing.T, what string, r *compact.Range, want error) {
	t.Helper()
	got, err := r.Root()
	checkOnly(t, what+": Root", err, want)
	if got != (api.Hash{}) {
		t.Fatalf("%s: Root answers %x beside an error", what, got)
	}
}

// checkLeaves: it is of these leaves' stretch in all that it tells.
func checkLeaves(t *testing.T, what string, r *compact.Range, s api.Span, leaves []api.Hash) {
	t.Helper()
	checkRange(t, what, r, s, wantHashes(s, leaves))
	if s.Begin != 0 {
		checkNoRoot(t, what, r, api.ErrRange)
		return
	}
	checkRoot(t, what, r, wantMTH(leaves[:s.End]))
}

func checkNoLoad(t *testing.T, s api.Span, hashes []api.Hash, want error) {
	t.Helper()
	what := fmt.Sprintf("Load(%v, %d hashes)", s, len(hashes))
	r, err := compact.Load(s, hashes)
	checkOnly(t, what, err, want)
	if r != nil {
		t.Fatalf("%s answers a range beside an error", what)
	}
}

// checkNoAppend: it is refused, and the range stays as it is.
func checkNoAppend(t *testing.T, r *compact.Range, want error) {
	t.Helper()
	s, hashes := r.Span(), r.Hashes()
	checkOnly(t, fmt.Sprintf("Append to %v", s), r.Append(api.Hash{7}), want)
	checkRange(t, "behind a refused Append", r, s, hashes)
}

// checkNoJoin: it is refused, and both ranges stay as they are.
func checkNoJoin(t *testing.T, r, o *compact.Range, want error) {
	t.Helper()
	s, hashes, os, others := r.Span(), r.Hashes(), o.Span(), o.Hashes()
	checkOnly(t, fmt.Sprintf("Join of %v and %v", s, os), r.Join(o), want)
	checkRange(t, "behind a refused Join", r, s, hashes)
	checkRange(t, "what was refused", o, os, others)
}

// The chapter's examples.

var la, lb, lc = hash.Leaf("a"), hash.Leaf("b"), hash.Leaf("c")

func TestExamplesOfAppend(t *testing.T) {
	r := compact.New(0)
	checkRange(t, "New(0)", r, stretch(0, 0), nil)
	checkRoot(t, "New(0)", r, hash.Empty())
	r = appended(t, 0, la, lb, lc)
	checkRange(t, "three from 0 on", r, stretch(0, 3), []api.Hash{hash.Node(la, lb), lc})
	checkRoot(t, "three from 0 on", r, hash.Node(hash.Node(la, lb), lc))
	r = appended(t, 1, la, lb)
	checkRange(t, "two from 1 on", r, stretch(1, 3), []api.Hash{la, lb})
	checkNoRoot(t, "two from 1 on", r, api.ErrRange)
	r = appended(t, 1, la, lb, lc)
	checkRange(t, "three from 1 on", r, stretch(1, 4), []api.Hash{la, hash.Node(lb, lc)})
}

func TestExamplesOfLoad(t *testing.T) {
	checkRange(t, "[0, 3)", loaded(t, stretch(0, 3), []api.Hash{la, lb}), stretch(0, 3), []api.Hash{la, lb})
	checkNoLoad(t, stretch(0, 3), []api.Hash{la, lb, lc}, api.ErrArg)
	checkNoLoad(t, stretch(3, 2), nil, api.ErrRange)
	checkRange(t, "[0, 0)", loaded(t, stretch(0, 0), nil), stretch(0, 0), nil)
}

func TestExamplesOfJoin(t *testing.T) {
	cc := hash.Node(lc, lc)
	r := appended(t, 0, la)
	joinAll(t, r, loaded(t, stretch(1, 4), []api.Hash{lb, cc}))
	checkRange(t, "[0, 4)", r, stretch(0, 4), []api.Hash{hash.Node(hash.Node(la, lb), cc)})
	r = appended(t, 0, la)
	checkNoJoin(t, r, appended(t, 2, lb), api.ErrArg)
	checkNoJoin(t, r, r, api.ErrArg)
	checkNoJoin(t, r, nil, api.ErrNil)
	r = compact.New(5)
	joinAll(t, r, r)
	checkRange(t, "New(5) with itself", r, stretch(5, 5), nil)
}

func TestExamplesOfTheEnd(t *testing.T) {
	checkNoAppend(t, loaded(t, stretch(lastEnd-1, lastEnd), []api.Hash{la}), api.ErrLimit)
	checkNoAppend(t, compact.New(greatest), api.ErrLimit)
}

// P9.1

func TestNew(t *testing.T) {
	for _, begin := range []uint64{0, 1, 2, 3, 4, 7, 8, 255, 256, 1<<32 - 1, 1 << 32, lastEnd - 2, lastEnd - 1, lastEnd, lastEnd + 1, greatest - 1, greatest} {
		what := fmt.Sprintf("New(%d)", begin)
		r := compact.New(begin)
		checkRange(t, what, r, stretch(begin, begin), nil)
		checkRange(t, what+", copied", r.Copy(), stretch(begin, begin), nil)
		if begin == 0 {
			checkRoot(t, what, r, sum())
		} else {
			checkNoRoot(t, what, r, api.ErrRange)
		}
		if begin >= lastEnd {
			checkNoAppend(t, r, api.ErrLimit)
			continue
		}
		appendAll(t, r, []api.Hash{la})
		checkRange(t, what+" and a leaf", r, stretch(begin, begin+1), []api.Hash{la})
	}
}

// P9.2

// checkLoads: Load of the stretch with as many hashes as it needs, and with other numbers of them.
func checkLoads(t *testing.T, s api.Span) {
	t.Helper()
	count := len(wantCover(s))
	hashes := someHashes(count + 3)
	r := loaded(t, s, hashes[:count])
	checkRange(t, fmt.Sprintf("Load(%v)", s), r, s, hashes[:count])
	for n := range hashes {
		if n != count {
			checkNoLoad(t, s, hashes[:n], api.ErrArg)
		}
	}
}

func TestLoadOfSmallStretches(t *testing.T) {
	for end := range uint64(70) {
		for begin := range end + 1 {
			checkLoads(t, stretch(begin, end))
		}
	}
}

func TestLoadOfGreatStretches(t *testing.T) {
	edges := []uint64{0, 1, 2, 3, 255, 256, 1<<32 - 1, 1 << 32, 1<<32 + 1, 1<<62 - 1, 1 << 62, 1<<62 + 1, lastEnd - 2, lastEnd - 1, lastEnd}
	for i, begin := range edges {
		for _, end := range edges[i:] {
			checkLoads(t, stretch(begin, end))
		}
	}
}

// No hash is asked what it is: zero ones, and the same again and again, are loaded like others.
func TestLoadOfAnyHashes(t *testing.T) {
	zero := make([]api.Hash, 3)
	checkRange(t, "zero hashes", loaded(t, stretch(0, 7), zero), stretch(0, 7), zero)
	checkRoot(t, "zero hashes", loaded(t, stretch(0, 7), zero), wantNode(zero[0], wantNode(zero[1], zero[2])))
	same := []api.Hash{la, la}
	checkRange(t, "the same twice", loaded(t, stretch(1, 3), same), stretch(1, 3), same)
}

func TestLoadOfNoLeaves(t *testing.T) {
	for _, at := range []uint64{0, 1, 2, 5, 1 << 32, lastEnd - 1, lastEnd} {
		s := stretch(at, at)
		checkRange(t, "loaded with nil", loaded(t, s, nil), s, nil)
		checkRange(t, "loaded with none", loaded(t, s, []api.Hash{}), s, nil)
		checkNoLoad(t, s, []api.Hash{la}, api.ErrArg)
	}
	checkRoot(t, "[0, 0)", loaded(t, stretch(0, 0), nil), sum())
	checkNoRoot(t, "[1, 1)", loaded(t, stretch(1, 1), nil), api.ErrRange)
}

// A stretch that may not be is told ahead of a number of hashes that is wrong: with it any number is.
func TestLoadOfStretchesThatMayNotBe(t *testing.T) {
	bad := []api.Span{
		stretch(1, 0), stretch(3, 2), stretch(lastEnd, 0), stretch(lastEnd, lastEnd-1), stretch(greatest, 0), stretch(greatest, greatest-1),
		stretch(0, lastEnd+1), stretch(0, greatest), stretch(1, lastEnd+1), stretch(lastEnd-1, lastEnd+1), stretch(lastEnd, lastEnd+1),
		stretch(lastEnd, greatest), stretch(lastEnd+1, lastEnd+1), stretch(lastEnd+1, lastEnd+2), stretch(lastEnd+1, lastEnd),
		stretch(greatest-1, greatest), stretch(greatest, greatest),
	}
	for begin := range uint64(9) {
		for end := range begin {
			bad = append(bad, stretch(begin, end))
		}
	}
	for _, s := range bad {
		for _, count := range []int{0, 1, 2, 63, 64, 65, 126, 127} {
			checkNoLoad(t, s, someHashes(count), api.ErrRange)
		}
	}
}

// P9.3

func TestAppendLeafByLeaf(t *testing.T) {
	const most = 140
	leaves := someHashes(most)
	for begin := range uint64(40) {
		r := compact.New(begin)
		for end := begin; ; end++ {
			s := stretch(begin, end)
			checkLeaves(t, fmt.Sprintf("appended %v", s), r, s, leaves)
			if end == most {
				break
			}
			appendAll(t, r, leaves[end:end+1])
		}
	}
}

// What was loaded goes on as what was appended.
func TestAppendToWhatWasLoaded(t *testing.T) {
	const most = 40
	leaves := someHashes(most)
	for begin := range uint64(most) {
		for end := begin; end <= most; end++ {
			r := part(t, stretch(begin, end), leaves)
			appendAll(t, r, leaves[end:])
			checkLeaves(t, fmt.Sprintf("loaded to %d, and on", end), r, stretch(begin, most), leaves)
		}
	}
}

// A hash is not asked what it is: the zero one is a leaf's like others, and neighbours are joined by where they stand.
func TestAppendOfAnyHash(t *testing.T) {
	leaves := make([]api.Hash, 21)
	for begin := range uint64(9) {
		r := appended(t, begin, leaves[begin:]...)
		checkLeaves(t, "zero hashes", r, stretch(begin, 21), leaves)
	}
}

func TestAppendUpToTheEnd(t *testing.T) {
	r := compact.New(lastEnd - 3)
	appendAll(t, r, []api.Hash{la, lb, lc})
	checkRange(t, "up to the end", r, stretch(lastEnd-3, lastEnd), []api.Hash{la, wantNode(lb, lc)})
	for range 3 {
		checkNoAppend(t, r, api.ErrLimit)
	}
	for _, begin := range []uint64{lastEnd, lastEnd + 1, lastEnd + 2, greatest - 1, greatest} {
		checkNoAppend(t, compact.New(begin), api.ErrLimit)
	}
	checkNoAppend(t, loaded(t, stretch(lastEnd, lastEnd), nil), api.ErrLimit)
	checkNoAppend(t, loaded(t, stretch(0, lastEnd), []api.Hash{la}), api.ErrLimit)
	checkNoAppend(t, loaded(t, stretch(1, lastEnd), someHashes(63)), api.ErrLimit)
}

// The last leaf that may be makes one tree of all: 63 pairs are joined.
func TestAppendTheLastLeaf(t *testing.T) {
	hashes := someHashes(64)
	r := loaded(t, stretch(0, lastEnd-1), hashes[:63])
	want := hashes[63]
	for _, h := range slices.Backward(hashes[:63]) {
		want = wantNode(h, want)
	}
	appendAll(t, r, hashes[63:])
	checkRange(t, "all leaves", r, stretch(0, lastEnd), []api.Hash{want})
	checkRoot(t, "all leaves", r, want)
	checkNoAppend(t, r, api.ErrLimit)
}

func TestAppendAroundGreatNumbers(t *testing.T) {
	for _, at := range []uint64{1 << 16, 1 << 31, 1 << 32, 1 << 33, 1 << 62, 3 << 61, lastEnd} {
		r := appended(t, at-2, la, lb)
		checkRange(t, "two ahead", r, stretch(at-2, at), []api.Hash{wantNode(la, lb)})
		r = appended(t, at-1, la)
		checkRange(t, "one ahead", r, stretch(at-1, at), []api.Hash{la})
		if at == lastEnd {
			continue
		}
		appendAll(t, r, []api.Hash{lb, lc})
		checkRange(t, "one ahead, two behind", r, stretch(at-1, at+2), []api.Hash{la, wantNode(lb, lc)})
	}
}

// P9.4

func TestJoinOfAllSmallNeighbours(t *testing.T) {
	const most = 34
	leaves := someHashes(most)
	for begin := range uint64(most) {
		for middle := begin; middle <= most; middle++ {
			for end := middle; end <= most; end++ {
				r, o := part(t, stretch(begin, middle), leaves), part(t, stretch(middle, end), leaves)
				joinAll(t, r, o)
				what := fmt.Sprintf("[%d, %d) and [%d, %d)", begin, middle, middle, end)
				checkLeaves(t, what, r, stretch(begin, end), leaves)
				checkLeaves(t, what+": the other one", o, stretch(middle, end), leaves)
			}
		}
	}
}

func TestJoinWithAPartWithoutLeaves(t *testing.T) {
	leaves := someHashes(20)
	for begin := range uint64(12) {
		for end := begin; end <= 20; end++ {
			s := stretch(begin, end)
			r := part(t, s, leaves)
			joinAll(t, r, compact.New(end), loaded(t, stretch(end, end), nil), compact.New(end))
			checkLeaves(t, "joined with nothing behind", r, s, leaves)
			o := compact.New(begin)
			joinAll(t, o, r)
			checkLeaves(t, "joined to nothing", o, s, leaves)
			checkLeaves(t, "what was joined to nothing", r, s, leaves)
		}
	}
	for _, at := range []uint64{0, 5, lastEnd, lastEnd + 1, greatest} {
		r := compact.New(at)
		joinAll(t, r, compact.New(at), compact.New(at))
		checkRange(t, "nothing with nothing", r, stretch(at, at), nil)
	}
}

func TestJoinOfWhatDoesNotMeet(t *testing.T) {
	const most = 9
	leaves := someHashes(most)
	for rb := range uint64(most) {
		for re := rb; re <= most; re++ {
			for ob := range uint64(most) {
				for oe := ob; oe <= most; oe++ {
					if ob != re {
						checkNoJoin(t, part(t, stretch(rb, re), leaves), part(t, stretch(ob, oe), leaves), api.ErrArg)
					}
				}
			}
		}
	}
	checkNoJoin(t, compact.New(0), compact.New(lastEnd), api.ErrArg)
	checkNoJoin(t, compact.New(0), compact.New(1<<32), api.ErrArg)
	checkNoJoin(t, compact.New(greatest), compact.New(0), api.ErrArg)
	checkNoJoin(t, compact.New(0), compact.New(greatest), api.ErrArg)
	checkNoJoin(t, appended(t, 5, la), compact.New(5), api.ErrArg) // it begins where the other one begins
}

func TestJoinWithItself(t *testing.T) {
	leaves := someHashes(12)
	for begin := range uint64(6) {
		for end := begin + 1; end <= 12; end++ {
			r := part(t, stretch(begin, end), leaves)
			checkNoJoin(t, r, r, api.ErrArg)
			checkNoJoin(t, r, r.Copy(), api.ErrArg)
			checkLeaves(t, "not joined with itself", r, stretch(begin, end), leaves)
		}
		r := compact.New(begin)
		joinAll(t, r, r, r)
		checkRange(t, "joined with itself", r, stretch(begin, begin), nil)
		appendAll(t, r, leaves[begin:])
		checkLeaves(t, "joined with itself, and on", r, stretch(begin, 12), leaves)
	}
	for _, at := range []uint64{lastEnd - 1, lastEnd, lastEnd + 1, greatest} {
		r := compact.New(at)
		joinAll(t, r, r)
		checkRange(t, "joined with itself", r, stretch(at, at), nil)
	}
}

func TestJoinWithWhatIsNotThere(t *testing.T) {
	for _, r := range []*compact.Range{compact.New(0), compact.New(1), compact.New(greatest), appended(t, 0, la, lb, lc), appended(t, 3, la)} {
		for _, o := range []*compact.Range{nil, {}, new(compact.Range)} {
			checkNoJoin(t, r, o, api.ErrNil)
			checkNoJoin(t, o, r, api.ErrNil)
		}
	}
	var zero compact.Range
	for _, r := range []*compact.Range{nil, {}, &zero} {
		for _, o := range []*compact.Range{nil, {}, &zero} {
			checkNoJoin(t, r, o, api.ErrNil)
		}
		checkNoJoin(t, r, r, api.ErrNil)
	}
}

func TestBothGoOnByThemselvesBehindAJoin(t *testing.T) {
	const most = 24
	leaves, others := someHashes(most), someHashes(2 * most)[most:]
	for begin := range uint64(6) {
		for middle := begin; middle <= 12; middle++ {
			for end := middle; end <= 14; end++ {
				r, o := part(t, stretch(begin, middle), leaves), part(t, stretch(middle, end), leaves)
				joinAll(t, r, o)
				ohs := slices.Concat(leaves[:end], others[end:])
				appendAll(t, o, others[end:])
				checkLeaves(t, "the other one grew", r, stretch(begin, end), leaves)
				appendAll(t, r, leaves[end:])
				checkLeaves(t, "grown", r, stretch(begin, most), leaves)
				checkLeaves(t, "the other one, grown", o, stretch(middle, most), ohs)
			}
		}
	}
}

// placed is a tree with its hash, for the definition of what is joined.
type placed struct {
	at   api.Coord
	hash api.Hash
}

// reduce: again and again two neighbours that are both halves of one are replaced by it; which ones comes by choose, of so many that can be.
func reduce(row []placed, choose func(n int) int) []api.Hash {
	row = slices.Clone(row)
	for {
		var can []int
		for i := 1; i < len(row); i++ {
			a, b := row[i-1].at, row[i].at
			if a.Level == b.Level && a.Index%2 == 0 && b.Index == a.Index+1 {
				can = append(can, i)
			}
		}
		if len(can) == 0 {
			break
		}
		i := can[choose(len(can))]
		a, b := row[i-1], row[i]
		up := placed{at: api.Coord{Level: a.at.Level + 1, Index: a.at.Index / 2}, hash: wantNode(a.hash, b.hash)}
		row = slices.Replace(row, i-1, i+1, up)
	}
	var all []api.Hash
	for _, p := range row {
		all = append(all, p.hash)
	}
	return all
}

func place(s api.Span, hashes []api.Hash) []placed {
	var row []placed
	for i, c := range wantCover(s) {
		row = append(row, placed{at: c, hash: hashes[i]})
	}
	return row
}

// checkGreatJoin: of two stretches of any size, with hashes that are of no leaves.
func checkGreatJoin(t *testing.T, rnd *rand.Rand, begin, middle, end uint64) {
	t.Helper()
	rs, os := stretch(begin, middle), stretch(middle, end)
	rn, on := len(wantCover(rs)), len(wantCover(os))
	hashes := someHashes(rn + on)
	r, o := loaded(t, rs, hashes[:rn]), loaded(t, os, hashes[rn:])
	joinAll(t, r, o)
	row := slices.Concat(place(rs, hashes[:rn]), place(os, hashes[rn:]))
	want := reduce(row, rnd.Intn)
	if len(want) != len(wantCover(stretch(begin, end))) {
		t.Fatalf("[%d, %d, %d): the test's own ways differ", begin, middle, end)
	}
	checkRange(t, "a great one", r, stretch(begin, end), want)
	checkRange(t, "what was joined to it", o, os, hashes[rn:])
}

func TestJoinOfGreatStretches(t *testing.T) {
	rnd := rand.New(rand.NewSource(99))
	edges := []uint64{0, 1, 2, 3, 1<<32 - 1, 1 << 32, 1<<32 + 1, 1 << 62, 1<<62 + 1, lastEnd - 1, lastEnd}
	for i, begin := range edges {
		for j, middle := range edges[i:] {
			for _, end := range edges[i:][j:] {
				checkGreatJoin(t, rnd, begin, middle, end)
			}
		}
	}
	for range 300 {
		cuts := []uint64{rnd.Uint64() >> (1 + rnd.Intn(63)), rnd.Uint64() >> (1 + rnd.Intn(63)), rnd.Uint64() >> (1 + rnd.Intn(63))}
		slices.Sort(cuts)
		checkGreatJoin(t, rnd, cuts[0], cuts[1], cuts[2])
	}
}

// P9.5

func TestCopy(t *testing.T) {
	const most = 30
	leaves, others := someHashes(most), someHashes(2 * most)[most:]
	for begin := range uint64(7) {
		for end := begin; end <= 20; end++ {
			s := stretch(begin, end)
			r := appended(t, begin, leaves[begin:end]...)
			c := r.Copy()
			if c == r {
				t.Fatal("Copy answers the range itself")
			}
			checkLeaves(t, "a copy", c, s, leaves)
			appendAll(t, c, others[end:])
			checkLeaves(t, "what was copied", r, s, leaves)
			again := r.Copy()
			appendAll(t, r, leaves[end:])
			checkLeaves(t, "the copy, on", c, stretch(begin, most), slices.Concat(leaves[:end], others[end:]))
			checkLeaves(t, "what was copied, on", r, stretch(begin, most), leaves)
			joinAll(t, again, part(t, stretch(end, most), leaves))
			checkLeaves(t, "a second copy, joined", again, stretch(begin, most), leaves)
		}
	}
}

func TestACopyOfACopy(t *testing.T) {
	leaves := someHashes(9)
	all := []*compact.Range{compact.New(0)}
	for i := range leaves {
		next := all[i].Copy()
		appendAll(t, next, leaves[i:i+1])
		all = append(all, next)
	}
	for i, r := range all {
		checkLeaves(t, "a copy in a row", r, stretch(0, uint64(i)), leaves)
	}
}

func TestACopyJoinsWhatItWasCopiedFrom(t *testing.T) {
	r := compact.New(4)
	c := r.Copy()
	joinAll(t, c, r)
	joinAll(t, r, c)
	appendAll(t, c, []api.Hash{la})
	joinAll(t, r, c)
	checkRange(t, "joined with its copy", r, stretch(4, 5), []api.Hash{la})
	checkNoJoin(t, r, c, api.ErrArg)
}

// P9.6

func TestRootOfEachSize(t *testing.T) {
	const most = 600
	leaves := someHashes(most)
	r := compact.New(0)
	for n := uint64(0); ; n++ {
		what := fmt.Sprintf("%d leaves", n)
		checkRoot(t, what, r, wantMTH(leaves[:n]))
		checkRoot(t, what+", loaded", part(t, stretch(0, n), leaves), wantMTH(leaves[:n]))
		if n == most {
			break
		}
		appendAll(t, r, leaves[n:n+1])
	}
	checkRange(t, "all", r, stretch(0, most), wantHashes(stretch(0, most), leaves))
}

func TestRootOfWhatDoesNotBeginAtNought(t *testing.T) {
	for begin := uint64(1); begin < 10; begin++ {
		for end := begin; end < 20; end++ {
			s := stretch(begin, end)
			checkNoRoot(t, fmt.Sprint(s), loaded(t, s, someHashes(len(wantCover(s)))), api.ErrRange)
		}
	}
	for _, begin := range []uint64{1 << 32, lastEnd - 1, lastEnd, lastEnd + 1, greatest} {
		checkNoRoot(t, fmt.Sprint(begin), compact.New(begin), api.ErrRange)
	}
	checkNoRoot(t, "up to the end", loaded(t, stretch(1, lastEnd), someHashes(63)), api.ErrRange)
}

func TestRootIsFoldedFromTheRight(t *testing.T) {
	h := someHashes(63)
	checkRoot(t, "one hash", loaded(t, stretch(0, 1<<40), h[:1]), h[0])
	checkRoot(t, "all leaves", loaded(t, stretch(0, lastEnd), h[:1]), h[0])
	checkRoot(t, "two hashes", loaded(t, stretch(0, 1<<40+1), h[:2]), wantNode(h[0], h[1]))
	checkRoot(t, "three hashes", loaded(t, stretch(0, 1<<40+1<<20+1), h[:3]), wantNode(h[0], wantNode(h[1], h[2])))
	want := h[62]
	for _, x := range slices.Backward(h[:62]) {
		want = wantNode(x, want)
	}
	checkRoot(t, "63 hashes", loaded(t, stretch(0, lastEnd-1), h), want)
}

// R3

func checkNotThere(t *testing.T, r *compact.Range) {
	t.Helper()
	tell := func() {
		if s, h, c := r.Span(), r.Hashes(), r.Copy(); s != (api.Span{}) || len(h) != 0 || c != nil {
			t.Errorf("a range that is not there tells %v, %v, %v", s, h, c)
		}
		checkNoRoot(t, "a range that is not there", r, api.ErrNil)
	}
	tell()
	for _, h := range []api.Hash{{}, la} {
		checkOnly(t, "Append", r.Append(h), api.ErrNil)
	}
	for _, begin := range []uint64{0, 1, lastEnd, greatest} {
		checkOnly(t, "Join", r.Join(compact.New(begin)), api.ErrNil)
	}
	checkOnly(t, "Join", r.Join(appended(t, 0, la, lb, lc)), api.ErrNil)
	checkOnly(t, "Join", r.Join(nil), api.ErrNil)
	checkOnly(t, "Join", r.Join(r), api.ErrNil)
	tell()
}

func TestARangeThatIsNotThere(t *testing.T) { checkNotThere(t, nil) }

func TestARangeThatNoCallMade(t *testing.T) {
	checkNotThere(t, &compact.Range{})
	checkNotThere(t, new(compact.Range))
	var r compact.Range
	checkNotThere(t, &r)
}

// R2, R5

func TestWhatIsRefusedChangesNothing(t *testing.T) {
	const most = 25
	leaves := someHashes(most)
	for begin := range uint64(5) {
		for end := begin; end <= 18; end++ {
			r := part(t, stretch(begin, end), leaves)
			r.Join(nil)
			r.Join(&compact.Range{})
			r.Join(compact.New(end + 1))
			r.Join(appended(t, end+1, la, lb))
			r.Join(compact.New(greatest))
			if begin < end {
				r.Join(r)
				r.Root()
			}
			checkLeaves(t, "behind refusals", r, stretch(begin, end), leaves)
			appendAll(t, r, leaves[end:])
			checkLeaves(t, "behind refusals, and on", r, stretch(begin, most), leaves)
		}
	}
}

func TestTwoRanges(t *testing.T) {
	ones, others := someHashes(20), someHashes(40)[20:]
	one, other := compact.New(0), compact.New(0)
	for i := range ones {
		appendAll(t, one, ones[i:i+1])
		checkLeaves(t, "the other one", other, stretch(0, uint64(i)), others)
		appendAll(t, other, others[i:i+1])
		checkLeaves(t, "the one", one, stretch(0, uint64(i)+1), ones)
	}
}

// R4

func writeOver(l []api.Hash) {
	room := l[:cap(l)]
	for i := range room {
		room[i] = api.Hash{0xee, 0xee}
	}
}

func TestHashesAreNewMemory(t *testing.T) {
	const most = 30
	leaves := someHashes(most)
	for begin := range uint64(5) {
		for end := begin; end <= 20; end++ {
			s := stretch(begin, end)
			r := appended(t, begin, leaves[begin:end]...)
			first, second, copied := r.Hashes(), r.Hashes(), r.Copy()
			writeOver(first)
			if !slices.Equal(second, wantHashes(s, leaves)) || slices.Contains(second[:cap(second)], api.Hash{0xee, 0xee}) {
				t.Fatal("two answers share memory")
			}
			writeOver(copied.Hashes())
			checkLeaves(t, "written over", r, s, leaves)
			checkLeaves(t, "its copy", copied, s, leaves)
			appendAll(t, r, leaves[end:])
			if !slices.Equal(second, wantHashes(s, leaves)) {
				t.Fatal("an answer has changed by later leaves")
			}
			checkLeaves(t, "written over, and on", r, stretch(begin, most), leaves)
		}
	}
}

func TestLoadKeepsTheContent(t *testing.T) {
	const most = 30
	leaves := someHashes(most)
	for begin := range uint64(5) {
		for end := begin; end <= 20; end++ {
			s := stretch(begin, end)
			given := wantHashes(s, leaves)
			room := append(slices.Clone(given), someHashes(8)...)
			before := slices.Clone(room)
			r := loaded(t, s, room[:len(given)])
			appendAll(t, r.Copy(), leaves[end:])
			writeOver(r.Hashes())
			joinAll(t, r, part(t, stretch(end, most), leaves))
			if !slices.Equal(room, before) {
				t.Fatal("what was handed to Load was changed, or its spare room")
			}
			r = loaded(t, s, room[:len(given)])
			writeOver(room)
			checkLeaves(t, "what was handed in is written over", r, s, leaves)
			appendAll(t, r, leaves[end:])
			checkLeaves(t, "what was handed in is written over, and on", r, stretch(begin, most), leaves)
		}
	}
}

func TestTwoLoadsOfTheSameHashes(t *testing.T) {
	leaves := someHashes(16)
	given := wantHashes(stretch(0, 7), leaves)
	one, other := loaded(t, stretch(0, 7), given), loaded(t, stretch(0, 7), given)
	appendAll(t, one, leaves[7:])
	checkLeaves(t, "the other one", other, stretch(0, 7), leaves)
	checkLeaves(t, "the one", one, stretch(0, 16), leaves)
}

// P9.7

func TestAsManyHashesAsTheCoverHasTrees(t *testing.T) {
	leaves := someHashes(60)
	for begin := range uint64(20) {
		r := compact.New(begin)
		for end := begin; end < 60; end++ {
			cover, err := coord.Cover(r.Span())
			if err != nil || len(r.Hashes()) != len(cover) {
				t.Fatalf("%v: %d hashes, %d trees, %v", r.Span(), len(r.Hashes()), len(cover), err)
			}
			if !slices.Equal(cover, wantCover(r.Span())) {
				t.Fatalf("%v: the cover is %v", r.Span(), cover)
			}
			appendAll(t, r, leaves[end:end+1])
		}
	}
}

// A stretch that is cut at some places, its parts made in one way or another, joined in any order.
func TestCutAndJoinedAgain(t *testing.T) {
	const most = 90
	leaves := someHashes(most)
	rnd := rand.New(rand.NewSource(97))
	for range 800 {
		cuts := make([]int, 2+rnd.Intn(9))
		for i := range cuts {
			cuts[i] = rnd.Intn(most + 1)
		}
		if rnd.Intn(2) == 0 {
			cuts[0] = 0
		}
		slices.Sort(cuts)
		var parts []*compact.Range
		for i := range cuts[1:] {
			s := stretch(uint64(cuts[i]), uint64(cuts[i+1]))
			if rnd.Intn(2) == 0 {
				parts = append(parts, part(t, s, leaves))
			} else {
				parts = append(parts, appended(t, s.Begin, leaves[s.Begin:s.End]...))
			}
		}
		for len(parts) > 1 {
			i := rnd.Intn(len(parts) - 1)
			joinAll(t, parts[i], parts[i+1])
			parts = slices.Delete(parts, i+1, i+2)
		}
		s := stretch(uint64(cuts[0]), uint64(cuts[len(cuts)-1]))
		checkLeaves(t, fmt.Sprintf("cut at %v", cuts), parts[0], s, leaves)
		checkRange(t, "loaded anew", loaded(t, parts[0].Span(), parts[0].Hashes()), s, wantHashes(s, leaves))
	}
}

// All orders in which four neighbours can be joined, for all cuts of a short stretch.
func TestAllOrdersOfJoining(t *testing.T) {
	const most = 11
	leaves := someHashes(most)
	for begin := range 4 {
		for one := begin; one <= most; one++ {
			for two := one; two <= most; two++ {
				for three := two; three <= most; three++ {
					checkOrders(t, []int{begin, one, two, three, most}, leaves)
				}
			}
		}
	}
}

func checkOrders(t *testing.T, cuts []int, leaves []api.Hash) {
	t.Helper()
	var parts []*compact.Range
	for i := range cuts[1:] {
		parts = append(parts, part(t, stretch(uint64(cuts[i]), uint64(cuts[i+1])), leaves))
	}
	s := stretch(uint64(cuts[0]), uint64(cuts[len(cuts)-1]))
	var all func(parts []*compact.Range)
	all = func(parts []*compact.Range) {
		if len(parts) == 1 {
			checkLeaves(t, fmt.Sprintf("cut at %v", cuts), parts[0], s, leaves)
			return
		}
		for i := range parts[1:] {
			both := parts[i].Copy()
			joinAll(t, both, parts[i+1])
			all(slices.Concat(parts[:i], []*compact.Range{both}, parts[i+2:]))
		}
	}
	all(parts)
}

// A range is asked, copied and joined to others side by side, while nothing is done to it: none of that writes into it.
func TestAskedSideBySide(t *testing.T) {
	leaves := someHashes(40)
	o := part(t, stretch(3, 29), leaves)
	done := make(chan bool)
	for range 8 {
		go func() {
			right := true
			for range 50 {
				r := compact.New(0)
				for _, h := range leaves[:3] {
					right = r.Append(h) == nil && right
				}
				right = r.Join(o) == nil && right
				root, err := r.Root()
				right = right && err == nil && root == wantMTH(leaves[:29])
				c := o.Copy()
				right = c.Append(leaves[29]) == nil && right
				right = right && slices.Equal(c.Hashes(), wantHashes(stretch(3, 30), leaves))
				right = right && slices.Equal(o.Hashes(), wantHashes(stretch(3, 29), leaves)) && o.Span() == stretch(3, 29)
			}
			done <- right
		}()
	}
	for range 8 {
		if !<-done {
			t.Error("another answer beside other calls")
		}
	}
}
