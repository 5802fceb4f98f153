package tile_test

import (
	"crypto/sha256"
	"errors"
	"fmt"
	"math"
	"math/big"
	"math/rand"
	"regexp"
	"slices"
	"strconv"
	"strings"
	"testing"

	"cartulary/api"
	"cartulary/coord"
	"cartulary/hash"
	"cartulary/tile"
)

const (
	mostLeaves uint64 = 1 << 63
	greatest   uint64 = math.MaxUint64
)

// tableErrors are the errors of the document's table, in its order.
func tableErrors() []error {
	return []error{
		api.ErrNil, api.ErrArg, api.ErrInput, api.ErrLimit, api.ErrRange, api.ErrGone, api.ErrUnavailable, api.ErrDead,
		api.ErrCorrupt, api.ErrProof, api.ErrSpent, api.ErrSigned, api.ErrFork, api.ErrOld, api.ErrStopped, api.ErrScript,
	}
}

// checkOnly: got is that error of the table, no other one, and tells no place.
func checkOnly(t *testing.T, what string, got, want error) {
	t.Helper()
	for _, e := range tableErrors() {
		if errors.Is(got, e) != (e == want) {
			t.Fatalf("%s: got %v, want %v: errors.Is says %v of %v", what, got, want, errors.Is(got, e), e)
		}
	}
	var f *api.Fault
	if errors.As(got, &f) && f.At != 0 {
		t.Fatalf("%s tells the place %d", what, f.At)
	}
}

func node(level int, index uint64) api.Coord { return api.Coord{Level: uint8(level), Index: index} }

func tileOf(level int, index uint64, width int) api.Tile {
	return api.Tile{Level: uint8(level), Index: index, Width: width}
}

// The words of the chapter, in numbers without end.

func number(n uint64) *big.Int { return new(big.Int).SetUint64(n) }

func power(exponent uint) *big.Int { return new(big.Int).Lsh(big.NewInt(1), exponent) }

// wantMayBe: (256 Index + Width) << 8 Level is at most 2^63.
func wantMayBe(x api.Tile) bool {
	if x.Level > 7 || x.Width < 1 || x.Width > 256 {
		return false
	}
	end := new(big.Int).Mul(big.NewInt(256), number(x.Index))
	end.Add(end, big.NewInt(int64(x.Width)))
	end.Lsh(end, 8*uint(x.Level))
	return end.Cmp(power(63)) <= 0
}

// wantTree: whether a whole tree's leaves end at 2^63 at the latest.
func wantTree(c api.Coord) bool {
	end := new(big.Int).Add(number(c.Index), big.NewInt(1))
	end.Lsh(end, uint(c.Level))
	return c.Level <= 63 && end.Cmp(power(63)) <= 0
}

// wantIn: how many nodes of the level there are from 256 index on, 256 at most.
func wantIn(level uint8, index, size uint64) (api.Tile, bool) {
	if level > 7 || number(size).Cmp(power(63)) > 0 {
		return api.Tile{}, false
	}
	left := new(big.Int).Rsh(number(size), 8*uint(level))
	left.Sub(left, new(big.Int).Mul(big.NewInt(256), number(index)))
	switch {
	case left.Sign() <= 0:
		return api.Tile{}, false
	case left.Cmp(big.NewInt(256)) > 0:
		return api.Tile{Level: level, Index: index, Width: 256}, true
	}
	return api.Tile{Level: level, Index: index, Width: int(left.Int64())}, true
}

// wantName: of a tile that may be.
func wantName(x api.Tile) string {
	digits := fmt.Sprint(x.Index)
	for len(digits)%3 != 0 {
		digits = "0" + digits
	}
	var threes []string
	for at := 0; at < len(digits); at += 3 {
		threes = append(threes, digits[at:at+3])
	}
	name := fmt.Sprintf("tile/%d/", x.Level)
	for i, three := range threes {
		if i < len(threes)-1 {
			name += "x" + three + "/"
		} else {
			name += three
		}
	}
	if x.Width != 256 {
		name += fmt.Sprintf(".p/%d", x.Width)
	}
	return name
}

var nameForm = regexp.MustCompile(`\A` + `tile/([0-7])/((?:x[0-9]{3}/)*)([0-9]{3})(?:\.p/([1-9][0-9]?|1[0-9]{2}|2[0-4][0-9]|25[0-5]))?` + `\z`)

// wantParse: by the form of names, another way than that of telling one.
func wantParse(s string) (api.Tile, bool) {
	parts := nameForm.FindStringSubmatch(s)
	if parts == nil || strings.HasPrefix(parts[2], "x000/") {
		return api.Tile{}, false
	}
	digits := strings.NewReplacer("x", "", "/", "").Replace(parts[2]) + parts[3]
	index, _ := new(big.Int).SetString(digits, 10)
	if !index.IsUint64() {
		return api.Tile{}, false
	}
	x := api.Tile{Level: parts[1][0] - '0', Index: index.Uint64(), Width: 256}
	if parts[4] != "" {
		x.Width, _ = strconv.Atoi(parts[4])
	}
	if !wantMayBe(x) {
		return api.Tile{}, false
	}
	return x, true
}

func wantNode(a, b api.Hash) api.Hash {
	return api.Hash(sha256.Sum256(slices.Concat([]byte{1}, a[:], b[:])))
}

// wantOver: by halves, as the promise says it.
func wantOver(l []api.Hash) api.Hash {
	if len(l) == 1 {
		return l[0]
	}
	return wantNode(wantOver(l[:len(l)/2]), wantOver(l[len(l)/2:]))
}

// someHashes: so many, no two the same.
func someHashes(count int) []api.Hash {
	rnd := rand.New(rand.NewSource(11))
	all := make([]api.Hash, count)
	for i := range all {
		rnd.Read(all[i][:])
	}
	return all
}

// sorted: each once.
func sorted(l []uint64) []uint64 {
	slices.Sort(l)
	return slices.Compact(l)
}

// The checks of one call each.

func checkOf(t *testing.T, c api.Coord, want api.Tile, wantAt, wantCount int) {
	t.Helper()
	x, at, count, ok := tile.Of(c)
	if x != want || at != wantAt || count != wantCount || !ok {
		t.Fatalf("Of(%v) = %v, %d, %d, %v; want %v, %d, %d", c, x, at, count, ok, want, wantAt, wantCount)
	}
}

func checkNoOf(t *testing.T, c api.Coord) {
	t.Helper()
	if x, at, count, ok := tile.Of(c); x != (api.Tile{}) || at != 0 || count != 0 || ok {
		t.Fatalf("Of(%v) = %v, %d, %d, %v; want nothing and false", c, x, at, count, ok)
	}
}

func checkIn(t *testing.T, level uint8, index, size uint64) {
	t.Helper()
	x, ok := tile.In(level, index, size)
	if want, wantOK := wantIn(level, index, size); x != want || ok != wantOK {
		t.Fatalf("In(%d, %d, %d) = %v, %v; want %v, %v", level, index, size, x, ok, want, wantOK)
	}
}

func all(t *testing.T, size uint64) []api.Tile {
	t.Helper()
	l, err := tile.All(size)
	if err != nil {
		t.Fatalf("All(%d): %v", size, err)
	}
	return l
}

func checkNoAll(t *testing.T, size uint64) {
	t.Helper()
	l, err := tile.All(size)
	checkOnly(t, fmt.Sprintf("All(%d)", size), err, api.ErrRange)
	if len(l) != 0 {
		t.Fatalf("All(%d) = %v beside an error", size, l)
	}
}

// checkName: either way.
func checkName(t *testing.T, x api.Tile, name string) {
	t.Helper()
	if s, err := tile.Path(x); s != name || err != nil {
		t.Fatalf("Path(%v) = %q, %v; want %q", x, s, err, name)
	}
	if y, err := tile.Parse(name); y != x || err != nil {
		t.Fatalf("Parse(%q) = %v, %v; want %v", name, y, err, x)
	}
}

func checkNoPath(t *testing.T, x api.Tile) {
	t.Helper()
	s, err := tile.Path(x)
	checkOnly(t, fmt.Sprintf("Path(%v)", x), err, api.ErrArg)
	if s != "" {
		t.Fatalf("Path(%v) = %q beside an error", x, s)
	}
}

func checkNoParse(t *testing.T, s string) {
	t.Helper()
	x, err := tile.Parse(s)
	checkOnly(t, fmt.Sprintf("Parse(%.99q)", s), err, api.ErrInput)
	if x != (api.Tile{}) {
		t.Fatalf("Parse(%.99q) = %v beside an error", s, x)
	}
}

// checkParse: of any text, as its form says; whether it is a name.
func checkParse(t *testing.T, s string) bool {
	t.Helper()
	want, ok := wantParse(s)
	if !ok {
		checkNoParse(t, s)
	} else if x, err := tile.Parse(s); x != want || err != nil {
		t.Fatalf("Parse(%q) = %v, %v; want %v", s, x, err, want)
	}
	return ok
}

func encoded(t *testing.T, l []api.Hash) string {
	t.Helper()
	s, err := tile.Encode(l)
	if err != nil {
		t.Fatalf("Encode of %d hashes: %v", len(l), err)
	}
	return s
}

func checkNoEncode(t *testing.T, l []api.Hash) {
	t.Helper()
	s, err := tile.Encode(l)
	checkOnly(t, fmt.Sprintf("Encode of %d hashes", len(l)), err, api.ErrArg)
	if s != "" {
		t.Fatalf("Encode of %d hashes tells %d bytes beside an error", len(l), len(s))
	}
}

func checkDecode(t *testing.T, s string, width int, want []api.Hash) {
	t.Helper()
	if l, err := tile.Decode(s, width); err != nil || !slices.Equal(l, want) {
		t.Fatalf("Decode(%d bytes, %d) = %x, %v; want %x", len(s), width, l, err, want)
	}
}

func checkNoDecode(t *testing.T, s string, width int, want error) {
	t.Helper()
	l, err := tile.Decode(s, width)
	checkOnly(t, fmt.Sprintf("Decode(%d bytes, %d)", len(s), width), err, want)
	if len(l) != 0 {
		t.Fatalf("Decode(%d bytes, %d) = %x beside an error", len(s), width, l)
	}
}

func checkHash(t *testing.T, l []api.Hash, at, count int, want api.Hash) {
	t.Helper()
	if h, err := tile.Hash(l, at, count); h != want || err != nil {
		t.Fatalf("Hash(%d hashes, %d, %d) = %x, %v; want %x", len(l), at, count, h, err, want)
	}
}

func checkNoHash(t *testing.T, l []api.Hash, at, count int) {
	t.Helper()
	h, err := tile.Hash(l, at, count)
	checkOnly(t, fmt.Sprintf("Hash(%d hashes, %d, %d)", len(l), at, count), err, api.ErrArg)
	if h != (api.Hash{}) {
		t.Fatalf("Hash(%d hashes, %d, %d) = %x beside an error", len(l), at, count, h)
	}
}

// The chapter's examples.

func TestExamplesOfOf(t *testing.T) {
	checkOf(t, node(0, 300), tileOf(0, 1, 256), 44, 1)
	checkOf(t, node(9, 1), tileOf(1, 0, 256), 2, 2)
	checkOf(t, node(8, 0), tileOf(1, 0, 256), 0, 1)
	checkOf(t, node(63, 0), tileOf(7, 0, 128), 0, 128)
	checkNoOf(t, node(64, 0))
	checkNoOf(t, node(63, 1))
}

func TestExamplesOfAll(t *testing.T) {
	for _, x := range []struct {
		size uint64
		want []api.Tile
	}{
		{0, nil},
		{1, []api.Tile{tileOf(0, 0, 1)}},
		{256, []api.Tile{tileOf(0, 0, 256), tileOf(1, 0, 1)}},
		{300, []api.Tile{tileOf(0, 0, 256), tileOf(0, 1, 44), tileOf(1, 0, 1)}},
	} {
		if got := all(t, x.size); !slices.Equal(got, x.want) {
			t.Errorf("All(%d) = %v, want %v", x.size, got, x.want)
		}
	}
	checkNoAll(t, 1048577)
}

func TestExamplesOfIn(t *testing.T) {
	for _, x := range []struct {
		level       uint8
		index, size uint64
		width       int // 0: there is none
	}{
		{0, 1, 300, 44}, {0, 2, 300, 0}, {1, 0, 255, 0}, {1, 0, 65536, 256},
		{8, 0, 1 << 63, 0}, {7, 0, 1 << 63, 128}, {0, 0, 1<<63 + 1, 0},
	} {
		var want api.Tile
		if x.width > 0 {
			want = api.Tile{Level: x.level, Index: x.index, Width: x.width}
		}
		if got, ok := tile.In(x.level, x.index, x.size); got != want || ok != (x.width > 0) {
			t.Errorf("In(%d, %d, %d) = %v, %v; want %v", x.level, x.index, x.size, got, ok, want)
		}
	}
}

func TestExamplesOfNames(t *testing.T) {
	checkName(t, tileOf(0, 1, 44), "tile/0/001.p/44")
	checkName(t, tileOf(0, 0, 256), "tile/0/000")
	checkName(t, tileOf(3, 1234067, 256), "tile/3/x001/x234/067")
	checkName(t, tileOf(1, 1000, 1), "tile/1/x001/000.p/1")
	for _, x := range []api.Tile{tileOf(0, 0, 0), tileOf(0, 0, 257), tileOf(8, 0, 1), tileOf(7, 0, 129), tileOf(7, 1, 1)} {
		checkNoPath(t, x)
	}
	for _, s := range []string{"tile/0/1", "tile/0/0001", "tile/0/x000/001", "tile/0/001.p/256", "tile/0/001.p/044", "tile/8/000", "tile/0/001/", ""} {
		checkNoParse(t, s)
	}
}

func TestExamplesOfHashes(t *testing.T) {
	checkNoEncode(t, nil)
	checkNoEncode(t, make([]api.Hash, 257))
	first, second := strings.Repeat("a", 32), strings.Repeat("b", 32)
	checkDecode(t, first+second, 2, []api.Hash{api.Hash([]byte(first)), api.Hash([]byte(second))})
	checkNoDecode(t, first+second[1:], 2, api.ErrInput)
	checkNoDecode(t, "", 0, api.ErrArg)
	l := []api.Hash{hash.Leaf("h"), hash.Leaf("i"), hash.Leaf("j"), hash.Leaf("k")}
	checkHash(t, l[:1], 0, 1, l[0])
	checkHash(t, l[:2], 0, 2, hash.Node(l[0], l[1]))
	checkHash(t, l[:2], 1, 1, l[1])
	checkNoHash(t, l[:3], 2, 2)
	checkNoHash(t, l, 1, 2)
	checkNoHash(t, l[:1], 0, 0)
	checkNoHash(t, l[:3], 0, 3)
}

// P11.1

// indicesOf: of a level, the first and the last that may be, and some between.
func indicesOf(level int) []uint64 {
	rnd := rand.New(rand.NewSource(int64(level)))
	last := mostLeaves>>level - 1
	all := []uint64{0, last, last / 2, last - last/3, last / 3, last - min(last, 1), last - min(last, 255), last - min(last, 256)}
	for n := range min(last, 600) {
		all = append(all, n)
	}
	for exponent := 0; exponent < 63-level; exponent++ {
		all = append(all, 1<<exponent-1, 1<<exponent)
	}
	for range 50 {
		all = append(all, rnd.Uint64()%(last+1))
	}
	return sorted(all)
}

func TestOfEachLevel(t *testing.T) {
	for level := range 64 {
		for _, index := range indicesOf(level) {
			c := node(level, index)
			if !wantTree(c) {
				t.Fatalf("the test asks for %v, which may not be", c)
			}
			j := level % 8
			a := new(big.Int).Lsh(number(index), uint(j))
			whole, rest := new(big.Int).QuoRem(a, big.NewInt(256), new(big.Int))
			width := 256
			if level/8 == 7 {
				width = 128
			}
			checkOf(t, c, tileOf(level/8, whole.Uint64(), width), int(rest.Int64()), 1<<j)
		}
	}
}

// The hashes that are told are of just the tree's leaves: of no others, and of all.
func TestOfTellsTheTreesLeaves(t *testing.T) {
	for level := range 64 {
		for _, index := range indicesOf(level) {
			x, at, count, _ := tile.Of(node(level, index))
			if !wantMayBe(x) || at < 0 || count < 1 || at+count > x.Width {
				t.Fatalf("Of(%d/%d) = %v, %d, %d: there are no such hashes", level, index, x, at, count)
			}
			begin := number(x.Index)
			begin.Lsh(begin, 8)
			begin.Add(begin, big.NewInt(int64(at)))
			end := new(big.Int).Add(begin, big.NewInt(int64(count)))
			begin.Lsh(begin, 8*uint(x.Level))
			end.Lsh(end, 8*uint(x.Level))
			want, wantOK := coord.Span(node(level, index))
			if !wantOK || begin.Cmp(number(want.Begin)) != 0 || end.Cmp(number(want.End)) != 0 {
				t.Fatalf("Of(%d/%d): the hashes are of [%v, %v), want %v", level, index, begin, end, want)
			}
		}
	}
}

func TestOfTreesThatMayNotBe(t *testing.T) {
	for level := range 64 {
		beyond := mostLeaves >> level
		for _, index := range []uint64{beyond, beyond + 1, beyond + 255, beyond + beyond/2, mostLeaves, mostLeaves + 1, greatest - 1, greatest} {
			if wantTree(node(level, index)) {
				t.Fatalf("the test asks for %d/%d, which may be", level, index)
			}
			checkNoOf(t, node(level, index))
		}
	}
	for level := 64; level < 256; level++ {
		for _, index := range []uint64{0, 1, 2, 255, 256, 1 << 32, mostLeaves - 1, mostLeaves, greatest} {
			checkNoOf(t, node(level, index))
		}
	}
}

// P11.2

// someSizes: powers of two, one below and one above each, small and great ones, up to the greatest number.
func someSizes() []uint64 {
	rnd := rand.New(rand.NewSource(2))
	all := []uint64{0, 300, 511, 513, 1000, 65536 + 300, api.MaxSize + 255, mostLeaves + 2, mostLeaves + 1<<56, 3 << 62, greatest - 1, greatest}
	for exponent := range 64 {
		p := uint64(1) << exponent
		all = append(all, p-1, p, p+1, p+p/2, rnd.Uint64()>>(63-exponent))
	}
	return sorted(all)
}

// indicesIn: the first ones, the last one of that level and size, those about it, and great ones that wrap round when they are taken times 256.
func indicesIn(level int, size uint64) []uint64 {
	nodes := uint64(0)
	if level < 8 {
		nodes = size >> (8 * level)
	}
	last := nodes / 256
	return sorted([]uint64{
		0, 1, 2, last / 2, last - min(last, 1), last, last + 1, last + 2,
		1<<56 - 1, 1 << 56, 1<<56 + 1, last + 1<<56, last + 255<<56, 1 << 57, mostLeaves, greatest - 1, greatest,
	})
}

func TestInOfEachLevel(t *testing.T) {
	for _, level := range []int{0, 1, 2, 3, 4, 5, 6, 7, 8, 9, 15, 16, 31, 32, 64, 128, 255} {
		for _, size := range someSizes() {
			for _, index := range indicesIn(level, size) {
				checkIn(t, uint8(level), index, size)
			}
		}
	}
}

func TestInOfSmallSizes(t *testing.T) {
	for size := range uint64(1300) {
		for level := range uint8(4) {
			for index := range uint64(8) {
				checkIn(t, level, index, size)
			}
		}
	}
}

func TestInOfTheGreatestLog(t *testing.T) {
	for level := range 8 {
		last := mostLeaves >> (8 * level) / 256
		if level < 7 {
			last--
		}
		width := 256
		if level == 7 {
			width = 128
		}
		if x, ok := tile.In(uint8(level), last, mostLeaves); !ok || x != tileOf(level, last, width) {
			t.Errorf("In(%d, %d, 2^63) = %v, %v", level, last, x, ok)
		}
		if x, ok := tile.In(uint8(level), last+1, mostLeaves); ok || x != (api.Tile{}) {
			t.Errorf("In(%d, %d, 2^63) = %v, %v", level, last+1, x, ok)
		}
		for _, size := range []uint64{mostLeaves + 1, mostLeaves + 1<<62, greatest} {
			if x, ok := tile.In(uint8(level), 0, size); ok || x != (api.Tile{}) {
				t.Errorf("In(%d, 0, %d) = %v, %v", level, size, x, ok)
			}
		}
	}
}

// checkAll: the tiles of a log of that size are those that In answers, and have the nodes of each level 8 L, each once, in order.
func checkAll(t *testing.T, size uint64) {
	t.Helper()
	got := all(t, size)
	var want []api.Tile
	for level := range uint8(8) {
		for index := range size/256 + 2 {
			if x, ok := tile.In(level, index, size); ok {
				want = append(want, x)
			}
		}
	}
	if !slices.Equal(got, want) {
		t.Fatalf("All(%d) = %v, want %v", size, got, want)
	}
	for level := range 8 {
		next := uint64(0)
		for len(got) > 0 && int(got[0].Level) == level {
			x := got[0]
			if x.Index*256 != next || x.Width < 1 || x.Width > 256 {
				t.Fatalf("All(%d): %v stands where the node %d comes", size, x, next)
			}
			next += uint64(x.Width)
			got = got[1:]
		}
		if next != size>>(8*level) {
			t.Fatalf("All(%d) has %d nodes of the level %d, want %d", size, next, 8*level, size>>(8*level))
		}
	}
	if len(got) != 0 {
		t.Fatalf("All(%d): %v are left", size, got)
	}
}

func TestAllOfSmallSizes(t *testing.T) {
	for size := range uint64(1100) {
		checkAll(t, size)
	}
}

func TestAllOfGreatSizes(t *testing.T) {
	for _, size := range []uint64{
		4095, 4096, 4097, 65535, 65536, 65537, 65536 + 255, 65536 + 256, 65536 + 257, 131071, 131072, 131073,
		300000, 1<<19 - 1, 1 << 19, 1<<19 + 1, api.MaxSize - 65536, api.MaxSize - 256, api.MaxSize - 1, api.MaxSize,
	} {
		checkAll(t, size)
	}
	if got := all(t, api.MaxSize); len(got) != 4096+16+1 || got[len(got)-1] != tileOf(2, 0, 16) {
		t.Errorf("a full log has %d tiles, the last one %v", len(got), got[len(got)-1])
	}
}

func TestAllAboveTheLimit(t *testing.T) {
	for _, size := range []uint64{api.MaxSize + 1, api.MaxSize + 2, 2 * api.MaxSize, 1 << 32, mostLeaves - 1, mostLeaves, mostLeaves + 1, greatest} {
		checkNoAll(t, size)
	}
}

// P11.3

// someIndices: of one to twenty digits, about each number of digits, and about the last that may be on each level.
func someIndices() []uint64 {
	rnd := rand.New(rand.NewSource(3))
	all := []uint64{0, 1, 2, 7, 42, 67, 234, 300, 1234067, 1001001, 1000000001, 36028797018963967, greatest, greatest - 1}
	for ten := uint64(1); ; ten *= 10 {
		all = append(all, ten-1, ten, ten+1, 5*ten)
		if ten > greatest/10 {
			break
		}
	}
	for exponent := range 64 {
		p := uint64(1) << exponent
		all = append(all, p-1, p, p+1, rnd.Uint64()>>(63-exponent))
	}
	return sorted(all)
}

func someWidths() []int { return []int{1, 2, 9, 10, 11, 99, 100, 101, 127, 128, 129, 254, 255, 256} }

func TestPathAndParseEitherWay(t *testing.T) {
	names := map[string]api.Tile{}
	for level := range 8 {
		for _, index := range someIndices() {
			for _, width := range someWidths() {
				x := tileOf(level, index, width)
				if !wantMayBe(x) {
					checkNoPath(t, x)
					checkNoParse(t, wantName(x))
					continue
				}
				checkName(t, x, wantName(x))
				if y, twice := names[wantName(x)]; twice {
					t.Fatalf("%v and %v have one name", x, y)
				}
				names[wantName(x)] = x
			}
		}
	}
}

func TestPathOfEachWidth(t *testing.T) {
	for level := range 8 {
		last := (mostLeaves>>(8*level) - 1) / 256
		for width := -3; width < 600; width++ {
			for _, index := range []uint64{0, last, last + 1} {
				if x := tileOf(level, index, width); wantMayBe(x) {
					checkName(t, x, wantName(x))
				} else {
					checkNoPath(t, x)
				}
			}
		}
	}
}

func TestPathOfEachSmallIndex(t *testing.T) {
	for index := range uint64(3000) {
		checkName(t, tileOf(0, index, 256), wantName(tileOf(0, index, 256)))
		checkName(t, tileOf(5, index, 77), wantName(tileOf(5, index, 77)))
	}
}

func TestPathsWrittenOut(t *testing.T) {
	checkName(t, tileOf(0, 999, 256), "tile/0/999")
	checkName(t, tileOf(0, 1000, 256), "tile/0/x001/000")
	checkName(t, tileOf(0, 999999, 9), "tile/0/x999/999.p/9")
	checkName(t, tileOf(0, 1000000, 10), "tile/0/x001/x000/000.p/10")
	checkName(t, tileOf(2, 10000, 99), "tile/2/x010/000.p/99")
	checkName(t, tileOf(2, 100000, 100), "tile/2/x100/000.p/100")
	checkName(t, tileOf(0, 36028797018963967, 256), "tile/0/x036/x028/x797/x018/x963/967")
	checkName(t, tileOf(0, 36028797018963967, 255), "tile/0/x036/x028/x797/x018/x963/967.p/255")
	checkName(t, tileOf(6, 127, 256), "tile/6/127")
	checkName(t, tileOf(7, 0, 128), "tile/7/000.p/128")
	checkName(t, tileOf(7, 0, 1), "tile/7/000.p/1")
}

func TestPathOfTilesThatMayNotBe(t *testing.T) {
	for level := 8; level < 256; level++ {
		for _, index := range []uint64{0, 1, 1 << 40, greatest} {
			for _, width := range []int{0, 1, 128, 256, 257} {
				checkNoPath(t, tileOf(level, index, width))
			}
		}
	}
	for level := range 8 {
		for _, width := range []int{0, -1, -2, -255, -256, -257, 257, 258, 511, 512, 513, 1 << 16, 1 << 32, 1<<32 + 1, 1 << 62, math.MaxInt, math.MaxInt - 1, math.MinInt, math.MinInt + 1, math.MinInt + 256} {
			for _, index := range []uint64{0, 1, 999, 1 << 55, greatest} {
				checkNoPath(t, tileOf(level, index, width))
			}
		}
		beyond := mostLeaves >> (8 * level) / 256
		if level == 7 {
			beyond = 1
		}
		for _, index := range []uint64{beyond, beyond + 1, 1 << 56, 1<<56 + 1, 255 << 56, 1<<63 - 1, 1 << 63, greatest - 1, greatest} {
			for _, width := range someWidths() {
				checkNoPath(t, tileOf(level, index, width))
			}
		}
	}
}

func TestParseOfWhatIsNoName(t *testing.T) {
	for _, s := range []string{
		// noughts too many or too few
		"tile/0/0", "tile/0/00", "tile/0/0000", "tile/0/000000", "tile/0/1", "tile/0/01", "tile/0/0001", "tile/0/1000", "tile/0/001000", "tile/0/x1/000", "tile/0/x01/000",
		"tile/0/x0001/000", "tile/0/x001/0", "tile/0/x001/00", "tile/0/x001/0000", "tile/0/x000/000", "tile/0/x000/999", "tile/0/x000/x001/000", "tile/0/x000/x000/001",
		"tile/00/000", "tile/01/000", "tile/000/000", "tile/0/000.p/0", "tile/0/000.p/00", "tile/0/000.p/01", "tile/0/000.p/001", "tile/0/000.p/044",
		// an x too many or too few
		"tile/0/x000", "tile/0/x001", "tile/0/001/000", "tile/0/x001/x000", "tile/0/xx001/000", "tile/0/x001x/000", "tile/0/001x/000", "tile/0/001/x000", "tile/x0/000", "xtile/0/000",
		"tile/0/X001/000", "tile/0/x001/234/067", "tile/0/001/x234/067", "tile/0/x001/x234/x067", "tile/0/001/234/067", "tile/0/x/000", "tile/0/x", "tile/0/000.p/x44", "tile/0/000.px/44",
		// a slash too many or too few
		"/tile/0/000", "tile//0/000", "tile/0//000", "tile/0/000/", "tile/0/x001//000", "tile/0/x001000", "tile0/000", "tile/0000", "tile/0/000.p44", "tile/0/000.p//44",
		"tile/0/000.p/44/", "tile/0/000/.p/44", "tile/0/000./p/44", "tile/0/001/.p/44", "tile/0/x001/x234067",
		// a sign, a point, a blank
		"tile/+0/000", "tile/-0/000", "tile/0/+00", "tile/0/-00", "tile/0/+000", "tile/0/-001", "tile/0/x+01/000", "tile/0/000.p/+44", "tile/0/000.p/-44", "tile/0/000.p/-1", "tile/0/000.p/+1",
		"tile/0/000..p/44", "tile/0/000.p./44", "tile/0/000.p/4.4", "tile/0/0.0", "tile/0/.p/44", "tile/0/000.", "tile/0/000.p", " tile/0/000", "tile/0/000 ", "tile/0/ 00", "tile/0/000.p/ 44", "tile/0/000\n", "tile/0/000\x00",
		"tile/0/1e2", "tile/0/0_1", "tile/0/0x1", "tile/0/000.p/0x1", "tile/0/000.p/1_0",
		// widths that stand in no name
		"tile/0/000.p/256", "tile/0/000.p/257", "tile/0/000.p/300", "tile/0/000.p/999", "tile/0/000.p/1000", "tile/0/000.p/4294967297", "tile/0/000.p/18446744073709551615", "tile/0/000.p/18446744073709551616",
		"tile/0/000.p/18446744073709551617", "tile/0/000.p/18446744073709551660", "tile/0/000.p/99999999999999999999999", "tile/0/000.p/", "tile/0/000.p/44.p/44", "tile/0/000.p/44.p/", "tile/0/000.p/.p/44",
		// levels that no tile has
		"tile/8/000", "tile/9/000", "tile/10/000", "tile/255/000", "tile/256/000", "tile/257/000", "tile/18446744073709551616/000", "tile/-1/000", "tile//000", "tile/a/000",
		// numbers that no 64 bits hold, and great ones that they do
		"tile/0/x018/x446/x744/x073/x709/x551/615", "tile/0/x018/x446/x744/x073/x709/x551/616", "tile/0/x018/x446/x744/x073/x709/x551/617", "tile/0/x999/x999/x999/x999/x999/x999/999",
		"tile/0/x001/x000/x000/x000/x000/x000/x000/000", "tile/0/x036/x893/x488/x147/x419/x103/232", "tile/0/x999/x999/x999/x999/x999/999", "tile/0/x036/x028/x797/x018/x963/968",
		"tile/0/x036/x028/x797/x018/x963/968.p/1", "tile/0/x072/x057/x594/x037/x927/936", "tile/0/x072/x057/x594/x037/x927/937.p/1",
		// bytes that are no digits
		"tile/0/abc", "tile/0/00a", "tile/0/a00", "tile/0/0a0", "tile/0/00:", "tile/0/00/", "tile/0/00\xb0", "tile/0/0٠", "tile/0/٠٠٠", "tile/0/000.p/a", "tile/0/000.p/4a", "tile/0/000.p/٤", "tile/o/000", "tile/0/xabc/000",
		// parts left out
		"", "t", "tile", "tile/", "tile/0", "tile/0/", "tile//", "/", "//", "///", "0/000", "/0/000", "000", ".p/44", "tile/000", "tile/.p/44", "tile/0.p/44", "tile.p/44", "x", "x001/000", "tile/0/x001/", "tile/0/x001/.p/44",
		// anything behind the name, ahead of it, in place of its word
		"tile/0/000tile/0/000", "tile/0/000/tile/0/000", "tile/0/0000", "tile/0/000x", "tile/0/000x001", "tile/0/000.p/44x", "tile/0/000.p/440", "tile/0/000.p/44 ", "Tile/0/000", "TILE/0/000", "tiles/0/000", "til/0/000", "leaf/0/000", "leaf/0", "checkpoint",
		"a/0/000", "/0/000", "tile/0/000.P/44", "tile/0/000.q/44", "tile/0/000/p/44", "tile/0/000,p/44",
		// names of tiles that may not be
		"tile/7/000", "tile/7/000.p/129", "tile/7/000.p/255", "tile/7/001", "tile/7/001.p/1", "tile/7/999.p/1", "tile/6/128", "tile/6/128.p/1", "tile/6/999", "tile/5/x032/768", "tile/5/x032/768.p/1", "tile/1/x140/x737/x488/x355/328.p/1",
	} {
		if _, ok := wantParse(s); ok {
			t.Fatalf("the test asks for %q, which is a name", s)
		}
		checkNoParse(t, s)
	}
}

// Just beside those that may not be stand those that may.
func TestParseAtTheEdges(t *testing.T) {
	for _, x := range []api.Tile{
		tileOf(7, 0, 128), tileOf(6, 127, 256), tileOf(6, 127, 255), tileOf(5, 32767, 256), tileOf(4, 8388607, 256), tileOf(3, 2147483647, 256),
		tileOf(2, 549755813887, 256), tileOf(1, 140737488355327, 256), tileOf(0, 36028797018963967, 256), tileOf(0, 36028797018963967, 1),
	} {
		checkName(t, x, wantName(x))
		x.Index++
		checkNoParse(t, wantName(x))
	}
}

// Each byte of a name left out, turned into any other, and any put ahead of it.
func TestParseOfNamesThatAreTurned(t *testing.T) {
	right := 0
	check := func(parts ...string) {
		t.Helper()
		if checkParse(t, strings.Join(parts, "")) {
			right++
		}
	}
	for _, name := range []string{
		"tile/0/000", "tile/0/001.p/44", "tile/3/x001/x234/067", "tile/1/x001/000.p/1", "tile/7/000.p/128", "tile/6/127.p/255", "tile/5/x032/767", "tile/2/999.p/100",
		"tile/0/x036/x028/x797/x018/x963/967.p/255",
	} {
		for at := range len(name) + 1 {
			check(name[:at])
			check(name[at:])
			check(name[:at], name)
			for b := range 256 {
				check(name[:at], string([]byte{byte(b)}), name[at:])
				if at < len(name) {
					check(name[:at], string([]byte{byte(b)}), name[at+1:])
				}
			}
			for end := at + 1; end <= len(name); end++ {
				check(name[:at], name[end:])
				check(name[:end], name[at:])
			}
		}
	}
	if right < 100 {
		t.Errorf("only %d of the turned names were names", right)
	}
}

// All short texts of the bytes of which names are made, in a name's place.
func TestParseOfAllShortTexts(t *testing.T) {
	letters := []string{"0", "1", "9", "x", "/", ".p/"}
	right := 0
	var try func(s string, left int)
	try = func(s string, left int) {
		for _, start := range []string{"tile/0/", "tile/7/000", "tile/0/000.p/", "tile/"} {
			if checkParse(t, start+s) {
				right++
			}
		}
		if left == 0 {
			return
		}
		for _, letter := range letters {
			try(s+letter, left-1)
		}
	}
	try("", 6)
	if right < 100 {
		t.Errorf("only %d of the short texts were names", right)
	}
}

func TestParseOfLongTexts(t *testing.T) {
	for _, n := range []int{30, 1000, api.MaxText, api.MaxText + 1, 4 * api.MaxText} {
		for _, s := range []string{"0", "9", "/", "x", "x000/", "x001/", ".p/", "tile/", "\x00", "\xff"} {
			long := strings.Repeat(s, n)
			checkNoParse(t, long)
			checkNoParse(t, "tile/0/"+long)
			checkNoParse(t, "tile/0/"+long+"000")
			checkNoParse(t, "tile/0/000"+long)
			checkNoParse(t, "tile/0/000.p/"+long)
			checkNoParse(t, "tile/"+long+"/000")
			checkNoParse(t, long+"tile/0/000")
		}
	}
}

// P11.4

func TestEncodeAndDecode(t *testing.T) {
	hashes := someHashes(256)
	hashes[7], hashes[200] = api.Hash{}, hashes[3] // no hash is asked what it is
	for count := 1; count <= 256; count++ {
		s := encoded(t, hashes[:count])
		if len(s) != 32*count {
			t.Fatalf("Encode of %d hashes has %d bytes", count, len(s))
		}
		for i := range len(s) {
			if s[i] != hashes[i/32][i%32] {
				t.Fatalf("Encode of %d hashes: the byte %d is %x", count, i, s[i])
			}
		}
		checkDecode(t, s, count, hashes[:count])
	}
}

func TestEncodeOfTooFewAndTooMany(t *testing.T) {
	hashes := someHashes(1000)
	checkNoEncode(t, nil)
	checkNoEncode(t, []api.Hash{})
	checkNoEncode(t, hashes[:0])
	for _, count := range []int{257, 258, 300, 512, 513, 1000} {
		checkNoEncode(t, hashes[:count])
	}
}

// Any bytes are hashes, if there are as many as are asked for.
func TestDecodeOfAnyBytes(t *testing.T) {
	rnd := rand.New(rand.NewSource(4))
	for range 300 {
		width := 1 + rnd.Intn(256)
		b := make([]byte, 32*width)
		rnd.Read(b)
		l, err := tile.Decode(string(b), width)
		if err != nil || len(l) != width {
			t.Fatalf("Decode(%d bytes, %d) = %d hashes, %v", len(b), width, len(l), err)
		}
		if encoded(t, l) != string(b) {
			t.Fatal("Encode of what Decode answers is not what it was")
		}
	}
	checkDecode(t, strings.Repeat("\x00", 32), 1, []api.Hash{{}})
}

func TestDecodeOfAByteTooManyOrTooFew(t *testing.T) {
	s := encoded(t, someHashes(256)) + strings.Repeat("z", 64)
	for width := 1; width <= 256; width++ {
		for _, count := range []int{0, 1, 31, 32*width - 33, 32*width - 32, 32*width - 31, 32*width - 1, 32*width + 1, 32*width + 31, 32*width + 32, 32*width + 33, width} {
			if count != 32*width && count >= 0 {
				checkNoDecode(t, s[:count], width, api.ErrInput)
			}
		}
	}
	checkNoDecode(t, strings.Repeat("z", api.MaxText+1), 256, api.ErrInput)
}

// A width that may not be is told ahead of a number of bytes that is wrong; whether it would be right is not asked either.
func TestDecodeOfWidthsThatMayNotBe(t *testing.T) {
	s := strings.Repeat("z", 32*300)
	for _, width := range []int{
		0, -1, -2, -31, -32, -255, -256, 257, 258, 300, 512, 1 << 16, 1 << 31, 1 << 32, 1<<32 + 1, 1 << 58, 1 << 59, 1<<59 + 1, 1<<59 + 2, 1 << 60, 1 << 62,
		math.MaxInt - 1, math.MaxInt, math.MinInt, math.MinInt + 1, math.MinInt + 2,
	} {
		for _, count := range []int{0, 1, 31, 32, 33, 63, 64, 65, 32 * 256, 32*256 + 1, 32 * 257, 32*257 + 1, 32 * 258, 32 * 300} {
			checkNoDecode(t, s[:count], width, api.ErrArg)
		}
	}
}

// P11.5

// wantHashed: whether there is such a tree, by the promise's words; numbers beyond all lists are not asked.
func wantHashed(number, at, count int) bool {
	isPower := false
	for p := 1; p <= 1<<20; p *= 2 {
		isPower = isPower || count == p
	}
	return number <= 256 && isPower && at >= 0 && at%count == 0 && at+count <= number
}

func TestHashOfEachPlace(t *testing.T) {
	hashes := someHashes(256)
	hashes[5], hashes[100] = api.Hash{}, hashes[99]
	var want [9][]api.Hash // by the exponent of count, and at / count
	for exponent := range want {
		for at := 0; at < 256; at += 1 << exponent {
			want[exponent] = append(want[exponent], wantOver(hashes[at:at+1<<exponent]))
		}
	}
	for number := range 257 {
		for exponent := range want {
			count := 1 << exponent
			for i := range want[exponent] {
				if at := i * count; at+count <= number {
					checkHash(t, hashes[:number], at, count, want[exponent][i])
				} else {
					checkNoHash(t, hashes[:number], at, count)
				}
			}
		}
	}
}

func TestHashOfEachNumberOfASmallList(t *testing.T) {
	hashes := someHashes(40)
	for number := range 41 {
		for at := -9; at < 50; at++ {
			for count := -9; count < 70; count++ {
				if wantHashed(number, at, count) {
					checkHash(t, hashes[:number], at, count, wantOver(hashes[at:at+count]))
				} else {
					checkNoHash(t, hashes[:number], at, count)
				}
			}
		}
	}
}

func TestHashOfLongLists(t *testing.T) {
	hashes := someHashes(1024)
	for _, number := range []int{257, 258, 300, 511, 512, 513, 1024} {
		for _, at := range []int{-1, 0, 1, 2, 128, 255, 256, 257, 512} {
			for _, count := range []int{-1, 0, 1, 2, 128, 256, 257, 512, 1024} {
				checkNoHash(t, hashes[:number], at, count)
			}
		}
	}
}

func TestHashOfTheGreatestAndTheLeastNumbers(t *testing.T) {
	great := []int{
		math.MinInt, math.MinInt + 1, math.MinInt + 2, math.MinInt / 2, -1 << 32, -257, -256, -255, -128, -2, -1, 0, 1, 2, 128, 255, 256, 257, 512,
		1 << 31, 1 << 32, 1 << 61, 1 << 62, math.MaxInt - 1, math.MaxInt,
	}
	hashes := someHashes(256)
	for _, number := range []int{0, 1, 2, 3, 128, 255, 256} {
		for _, at := range great {
			for _, count := range great {
				if at < 0 || at >= 512 || count < 1 || count >= 512 || !wantHashed(number, at, count) {
					checkNoHash(t, hashes[:number], at, count)
				} else {
					checkHash(t, hashes[:number], at, count, wantOver(hashes[at:at+count]))
				}
			}
		}
	}
}

func TestHashOfNoHashes(t *testing.T) {
	for _, none := range [][]api.Hash{nil, {}, make([]api.Hash, 0, 4), someHashes(4)[:0]} {
		for at := -2; at < 3; at++ {
			for count := -2; count < 5; count++ {
				checkNoHash(t, none, at, count)
			}
		}
	}
}

// P11.6

// Where a log has a whole tree, it has the hashes of which that is made.
func checkThere(t *testing.T, c api.Coord, size uint64) {
	t.Helper()
	x, at, count, ok := tile.Of(c)
	if !ok {
		t.Fatalf("Of(%v): false", c)
	}
	there, ok := tile.In(x.Level, x.Index, size)
	if !ok || there.Width < at+count || there.Width > x.Width || there.Level != x.Level || there.Index != x.Index {
		t.Fatalf("%v in a log of %d leaves: Of tells %v, %d, %d; In tells %v, %v", c, size, x, at, count, there, ok)
	}
}

func TestTilesOfTheTreesOfSmallLogs(t *testing.T) {
	for size := range uint64(700) {
		for level := 0; size>>level > 0; level++ {
			for index := range size >> level {
				checkThere(t, node(level, index), size)
			}
		}
	}
}

func TestTilesOfTheTreesOfGreatLogs(t *testing.T) {
	for _, size := range someSizes() {
		if size > mostLeaves {
			continue
		}
		for level := 0; level < 64 && size>>level > 0; level++ {
			last := size>>level - 1
			for _, index := range sorted([]uint64{0, last / 3, last / 2, last - min(last, 256), last - min(last, 255), last - min(last, 1), last}) {
				checkThere(t, node(level, index), size)
			}
		}
	}
}

func TestTheTilesOfALogMayBe(t *testing.T) {
	for _, size := range []uint64{1, 255, 256, 257, 300, 65536, 65537, 300000, api.MaxSize} {
		names := map[string]int{}
		for _, x := range all(t, size) {
			checkName(t, x, wantName(x))
			names[wantName(x)]++
		}
		if len(names) != len(all(t, size)) {
			t.Errorf("a log of %d leaves has %d tiles by %d names", size, len(all(t, size)), len(names))
		}
	}
}

// levelsOf: the nodes of each level of a log of these leaves.
func levelsOf(leaves []api.Hash) [][]api.Hash {
	var levels [][]api.Hash
	for l := leaves; len(l) > 0; {
		levels = append(levels, l)
		var above []api.Hash
		for at := 0; at+2 <= len(l); at += 2 {
			above = append(above, wantNode(l[at], l[at+1]))
		}
		l = above
	}
	return levels
}

// A log laid down in tiles by their names, and each of its whole trees' hashes taken out of them.
func TestALogInTiles(t *testing.T) {
	for _, size := range []int{1, 2, 255, 256, 257, 300, 1000, 66000} {
		levels := levelsOf(someHashes(size))
		store := map[string]string{}
		for _, x := range all(t, uint64(size)) {
			begin := int(x.Index) * 256
			name, err := tile.Path(x)
			if err != nil {
				t.Fatal(err)
			}
			store[name] = encoded(t, levels[8*x.Level][begin:begin+x.Width])
		}
		step := max(1, size/500) // of great logs some trees of each level
		for level, hashes := range levels {
			for index := 0; index < len(hashes); index += step {
				x, at, count, _ := tile.Of(node(level, uint64(index)))
				x, _ = tile.In(x.Level, x.Index, uint64(size))
				l, err := tile.Decode(store[wantName(x)], x.Width)
				if err != nil {
					t.Fatalf("%d leaves: the tile %v of %d/%d: %v", size, x, level, index, err)
				}
				checkHash(t, l, at, count, hashes[index])
			}
		}
	}
}

// R4

// mark stands in no answer.
var mark = api.Hash{0xee, 0xee}

func writeOver(l []api.Hash) {
	room := l[:cap(l)]
	for i := range room {
		room[i] = mark
	}
}

func TestAllIsNewMemory(t *testing.T) {
	for _, size := range []uint64{1, 256, 300, 66000} {
		first, second := all(t, size), all(t, size)
		want := slices.Clone(second)
		room := first[:cap(first)]
		for i := range room {
			room[i] = tileOf(99, 99, 99)
		}
		if !slices.Equal(second, want) || slices.Contains(second[:cap(second)], tileOf(99, 99, 99)) {
			t.Error("two answers share memory")
		}
		if !slices.Equal(all(t, size), want) {
			t.Error("a later answer has changed")
		}
	}
}

func TestDecodeIsNewMemory(t *testing.T) {
	hashes := someHashes(256)
	for _, width := range []int{1, 2, 3, 255, 256} {
		s := encoded(t, hashes[:width])
		first, err := tile.Decode(s, width)
		if err != nil {
			t.Fatal(err)
		}
		second, _ := tile.Decode(s, width)
		writeOver(first)
		if !slices.Equal(second, hashes[:width]) || slices.Contains(second[:cap(second)], mark) {
			t.Error("two answers share memory")
		}
		if s != encoded(t, hashes[:width]) {
			t.Error("the text has changed with what was read out of it")
		}
		checkDecode(t, s, width, hashes[:width])
	}
}

func TestWhatIsHandedInStays(t *testing.T) {
	hashes := someHashes(300)
	for _, count := range []int{0, 1, 2, 8, 100, 255, 256, 257} {
		room := slices.Clone(hashes)
		tile.Encode(room[:count])
		for _, at := range []int{-1, 0, 1, 4, 128} {
			for _, wide := range []int{-1, 0, 1, 2, 3, 4, 128, 256, 512} {
				tile.Hash(room[:count], at, wide)
			}
		}
		if !slices.Equal(room, hashes) {
			t.Errorf("a list of %d hashes has changed, or its spare room", count)
		}
	}
}

func TestEncodeKeepsTheContent(t *testing.T) {
	hashes := someHashes(256)
	room := slices.Clone(hashes)
	s := encoded(t, room)
	writeOver(room)
	checkDecode(t, s, 256, hashes)
}

// R5

// What was asked ahead, and what is asked beside, turns no answer.
func TestAskedSideBySide(t *testing.T) {
	hashes := someHashes(256)
	root, full := wantOver(hashes), encoded(t, hashes)
	tiles := all(t, 70000)
	done := make(chan error)
	for range 8 {
		go func() {
			for _, x := range tiles {
				name, err := tile.Path(x)
				back, errBack := tile.Parse(name)
				if err != nil || errBack != nil || name != wantName(x) || back != x {
					done <- fmt.Errorf("the name of %v is %q, and back %v", x, name, back)
					return
				}
				tile.Parse(name + "/")
			}
			l, err := tile.Decode(full, 256)
			h, errHash := tile.Hash(l, 0, 256)
			if err != nil || errHash != nil || h != root {
				done <- errors.New("another hash beside other calls")
				return
			}
			done <- nil
		}()
	}
	for range 8 {
		if err := <-done; err != nil {
			t.Error(err)
		}
	}
}
