package hash_test

import (
	"bytes"
	"crypto/sha256"
	"encoding/hex"
	"errors"
	"math"
	"math/rand"
	"slices"
	"strconv"
	"strings"
	"testing"
	"unicode/utf8"
	"unsafe"

	"cartulary/api"
	"cartulary/hash"
)

const (
	digits = "0123456789abcdef"
	eAcute = "\u00e9" // a rune of two bytes
)

// tableErrors are the errors of the document's table, in its order.
func tableErrors() []error {
	return []error{
		api.ErrNil, api.ErrArg, api.ErrInput, api.ErrLimit, api.ErrRange, api.ErrGone, api.ErrUnavailable, api.ErrDead,
		api.ErrCorrupt, api.ErrProof, api.ErrSpent, api.ErrSigned, api.ErrFork, api.ErrOld, api.ErrStopped, api.ErrScript,
	}
}

// checkOnly: got is that error of the table, and no other one.
func checkOnly(t *testing.T, what string, got, want error) {
	t.Helper()
	for _, e := range tableErrors() {
		if errors.Is(got, e) != (e == want) {
			t.Fatalf("%s: got %v, want %v: errors.Is says %v of %v", what, got, want, errors.Is(got, e), e)
		}
	}
}

// checkWrong: Read refuses s at that place, with no hash.
func checkWrong(t *testing.T, s string, at int) {
	t.Helper()
	h, err := hash.Read(s)
	checkOnly(t, "Read of "+brief(s), err, api.ErrInput)
	var f *api.Fault
	if !errors.As(err, &f) || f.At != at {
		t.Fatalf("Read of %s: got %+v, want the place %d", brief(s), f, at)
	}
	if h != (api.Hash{}) {
		t.Fatalf("Read of %s: got %x beside an error", brief(s), h)
	}
}

// checkRead: Read tells that hash of s.
func checkRead(t *testing.T, s string, want api.Hash) {
	t.Helper()
	if h, err := hash.Read(s); err != nil || h != want {
		t.Fatalf("Read of %s: got %x, %v, want %x", brief(s), h, err, want)
	}
}

func brief(s string) string {
	if len(s) > 80 {
		return strconv.Quote(s[:80]) + ".."
	}
	return strconv.Quote(s)
}

// sum: SHA of texts, one behind the other, as the library says it.
func sum(parts ...string) api.Hash {
	return api.Hash(sha256.Sum256([]byte(strings.Join(parts, ""))))
}

// someText: so many bytes, the same ones for the same number.
func someText(count int) string {
	b := make([]byte, count)
	rand.New(rand.NewSource(int64(count))).Read(b)
	return string(b)
}

// someHashes: some that are alike in much, and some by chance.
func someHashes() []api.Hash {
	all := []api.Hash{{}, filled(0xff), filled(0x7f), filled(0x80), filled(0x01), sum(), sum("\x00")}
	for at := range 32 {
		for _, b := range []byte{0x01, 0x09, 0x0a, 0x10, 0x7f, 0x80, 0xa0, 0xff} {
			var h api.Hash
			h[at] = b
			all = append(all, h)
		}
	}
	for i := range 40 {
		all = append(all, sum(someText(i)))
	}
	return all
}

func filled(b byte) api.Hash {
	return api.Hash(bytes.Repeat([]byte{b}, 32))
}

// ends: as the chapter writes a hash.
func ends(h api.Hash) string {
	s := hex.EncodeToString(h[:])
	return s[:4] + ".." + s[62:]
}

func chain(t *testing.T, h api.Hash, steps int) api.Hash {
	t.Helper()
	got, err := hash.Chain(h, steps)
	if err != nil {
		t.Fatalf("Chain of %d steps: %v", steps, err)
	}
	return got
}

// P5.1

func TestHashExamples(t *testing.T) {
	for _, c := range []struct {
		what string
		got  api.Hash
		want string
	}{
		{"Empty", hash.Empty(), "e3b0..55"},
		{"Leaf of no bytes", hash.Leaf(""), "6e34..1d"},
		{"Leaf of a", hash.Leaf("a"), "022a..3c"},
		{"Node of the leaves a and b", hash.Node(hash.Leaf("a"), hash.Leaf("b")), "b137..eb"},
	} {
		if ends(c.got) != c.want {
			t.Errorf("%s = %x, want %s", c.what, c.got, c.want)
		}
	}
}

func TestEmpty(t *testing.T) {
	for range 2 {
		got := hash.Empty()
		if got != sum() {
			t.Errorf("Empty = %x, want %x", got, sum())
		}
		got[0] ^= 0xff // an answer is the caller's own
	}
}

func TestLeafOfEachLength(t *testing.T) {
	for n := range 300 {
		for _, data := range []string{someText(n), strings.Repeat("\x00", n), strings.Repeat("\xff", n)} {
			if got := hash.Leaf(data); got != sum("\x00", data) {
				t.Fatalf("Leaf of %d bytes, %x .. = %x, want %x", n, data[:min(n, 4)], got, sum("\x00", data))
			}
		}
	}
}

// A leaf above MaxLeaf has its hash all the same: the chapter names no limit.
func TestLeafOfLongTexts(t *testing.T) {
	for _, n := range []int{4095, 4096, api.MaxLeaf - 1, api.MaxLeaf, api.MaxLeaf + 1, api.MaxText + 1} {
		if data := someText(n); hash.Leaf(data) != sum("\x00", data) {
			t.Errorf("Leaf of %d bytes = %x, want %x", n, hash.Leaf(data), sum("\x00", data))
		}
	}
}

func TestLeafOfEachByte(t *testing.T) {
	for b := range 256 {
		data := string([]byte{byte(b)})
		if got := hash.Leaf(data); got != sum("\x00", data) {
			t.Errorf("Leaf of the byte %x = %x, want %x", b, got, sum("\x00", data))
		}
	}
}

func TestNode(t *testing.T) {
	all := someHashes()
	for _, left := range all {
		for _, right := range []api.Hash{left, {}, all[1], all[5], all[60], all[len(all)-1]} {
			want := sum("\x01", string(left[:]), string(right[:]))
			if got := hash.Node(left, right); got != want {
				t.Fatalf("Node of %x and %x = %x, want %x", left, right, got, want)
			}
		}
	}
}

func TestNodeKeepsItsSides(t *testing.T) {
	a, b := hash.Leaf("a"), hash.Leaf("b")
	if hash.Node(a, b) == hash.Node(b, a) {
		t.Error("Node forgets which is left")
	}
}

// The byte ahead keeps the kinds apart.
func TestKindsAreApart(t *testing.T) {
	a, b := hash.Leaf("a"), hash.Leaf("b")
	both := string(a[:]) + string(b[:])
	step := chain(t, a, 1)
	for what, same := range map[string]bool{
		"a node and a leaf of its two hashes": hash.Node(a, b) == hash.Leaf(both),
		"a step and a leaf of its hash":       step == hash.Leaf(string(a[:])),
		"a step and the hash itself":          step == a,
		"no leaves and the empty leaf":        hash.Empty() == hash.Leaf(""),
	} {
		if same {
			t.Errorf("%s have one hash", what)
		}
	}
}

// P5.2

func TestChainExamples(t *testing.T) {
	h := hash.Leaf("a")
	if got := chain(t, h, 0); got != h {
		t.Errorf("Chain of no step = %x, want %x", got, h)
	}
	if got, want := chain(t, chain(t, h, 100), 155), chain(t, h, 255); got != want {
		t.Errorf("Chain of 100 and 155 = %x, of 255 = %x", got, want)
	}
}

func TestChainOfEachLength(t *testing.T) {
	for _, h := range []api.Hash{{}, filled(0xff), hash.Leaf("a"), sum("x")} {
		want := h
		for steps := range 256 {
			if got := chain(t, h, steps); got != want {
				t.Fatalf("Chain of %d steps of %x = %x, want %x", steps, h, got, want)
			}
			want = sum("\x02", string(want[:]))
		}
	}
}

func TestChainOfEachHash(t *testing.T) {
	for _, h := range someHashes() {
		once := sum("\x02", string(h[:]))
		twice := sum("\x02", string(once[:]))
		if chain(t, h, 0) != h || chain(t, h, 1) != once || chain(t, h, 2) != twice {
			t.Fatalf("Chain of %x = %x, %x, want %x, %x", h, chain(t, h, 1), chain(t, h, 2), once, twice)
		}
	}
}

func TestChainOfWrongSteps(t *testing.T) {
	for _, steps := range []int{
		-1, -2, -15, -255, -256, -257, 256, 257, 511, 512, 513, 65536, 65537,
		math.MinInt8, math.MinInt16, math.MinInt32, math.MaxInt16, math.MaxInt32, 1 << 32, 1<<32 + 1,
		math.MinInt, math.MinInt + 1, math.MinInt + 255, math.MaxInt - 1, math.MaxInt,
	} {
		for _, h := range []api.Hash{{}, hash.Leaf("a"), filled(0xff)} {
			got, err := hash.Chain(h, steps)
			checkOnly(t, "Chain", err, api.ErrArg)
			var f *api.Fault
			if errors.As(err, &f) && f.At != 0 {
				t.Errorf("Chain of %d steps tells the place %d", steps, f.At)
			}
			if got != (api.Hash{}) {
				t.Errorf("Chain of %d steps = %x beside an error", steps, got)
			}
		}
	}
}

// P5.3: Cmp

// checkOrder: less is less than more, both ways round.
func checkOrder(t *testing.T, less, more api.Hash) {
	t.Helper()
	if got := hash.Cmp(less, more); got != -1 {
		t.Fatalf("Cmp of %x and %x = %d, want -1", less, more, got)
	}
	if got := hash.Cmp(more, less); got != 1 {
		t.Fatalf("Cmp of %x and %x = %d, want 1", more, less, got)
	}
}

func TestCmpExamples(t *testing.T) {
	checkOrder(t, api.Hash{}, hash.Empty())
	if got := hash.Cmp(hash.Empty(), hash.Empty()); got != 0 {
		t.Errorf("Cmp of a hash and itself = %d", got)
	}
}

func TestCmpOfTheSame(t *testing.T) {
	for _, h := range someHashes() {
		other := h
		if got := hash.Cmp(h, other); got != 0 {
			t.Fatalf("Cmp of %x and itself = %d", h, got)
		}
	}
}

// At each byte, whatever stands ahead of it and the other way round behind it.
func TestCmpAtEachByte(t *testing.T) {
	for at := range 32 {
		for _, c := range [][2]byte{{0, 1}, {0, 0xff}, {0x7f, 0x80}, {0x7f, 0xff}, {0, 0x80}, {0xfe, 0xff}, {0x0f, 0x10}, {1, 2}} {
			for _, ahead := range []byte{0, 0x42, 0x80, 0xff} {
				less, more := filled(ahead), filled(ahead)
				less[at], more[at] = c[0], c[1]
				checkOrder(t, less, more)
				for i := at + 1; i < 32; i++ {
					less[i], more[i] = 0xff, 0
				}
				checkOrder(t, less, more)
			}
		}
	}
}

func TestCmpOfEachTwoBytes(t *testing.T) {
	for _, at := range []int{0, 15, 31} {
		for a := range 256 {
			for b := range a {
				var less, more api.Hash
				less[at], more[at] = byte(b), byte(a)
				checkOrder(t, less, more)
			}
		}
	}
}

func TestCmpAsTheLibrary(t *testing.T) {
	all := someHashes()
	for _, a := range all {
		for _, b := range all {
			if got, want := hash.Cmp(a, b), bytes.Compare(a[:], b[:]); got != want {
				t.Fatalf("Cmp of %x and %x = %d, want %d", a, b, got, want)
			}
		}
	}
}

// P5.3: Show

func TestShowExamples(t *testing.T) {
	noughts := strings.Repeat("0", 64)
	if got := hash.Show(api.Hash{}); got != noughts {
		t.Errorf("Show of the zero hash = %s", got)
	}
	checkRead(t, noughts, api.Hash{})
}

func TestShow(t *testing.T) {
	for _, h := range someHashes() {
		if got, want := hash.Show(h), hex.EncodeToString(h[:]); got != want {
			t.Fatalf("Show of %x = %s", h, got)
		}
	}
}

func TestShowOfEachByte(t *testing.T) {
	for b := range 256 {
		for at := range 32 {
			var h api.Hash
			h[at] = byte(b)
			want := strings.Repeat("0", 2*at) + string(digits[b/16]) + string(digits[b%16]) + strings.Repeat("0", 62-2*at)
			if got := hash.Show(h); got != want {
				t.Fatalf("Show of %x = %s, want %s", h, got, want)
			}
			checkRead(t, want, h)
		}
	}
}

func TestShowIsNewMemory(t *testing.T) {
	h := hash.Empty()
	first, second := hash.Show(h), hash.Show(h)
	if unsafe.StringData(first) == unsafe.StringData(second) {
		t.Error("two answers of Show share their memory")
	}
}

// P5.3: Read

func TestReadExamples(t *testing.T) {
	noughts := strings.Repeat("0", 80)
	for _, c := range []struct {
		s  string
		at int
	}{
		{"", 0}, {noughts[:63], 63}, {noughts[:65], 64},
		{"0G" + noughts[:70], 1}, {noughts[:62] + eAcute, 62}, {noughts[:64] + eAcute, 64},
	} {
		checkWrong(t, c.s, c.at)
	}
}

// right: 64 letters that Show tells, all sixteen among them.
func right() string {
	return strings.Repeat(digits, 4)
}

func TestReadOfEachLength(t *testing.T) {
	for _, letters := range []string{strings.Repeat("0", 300), strings.Repeat("f", 300), strings.Repeat(digits, 20)} {
		for n := range 300 {
			if n != 64 {
				checkWrong(t, letters[:n], min(n, 64))
			}
		}
	}
}

// No limit is named: a text above MaxText is refused as any other one.
func TestReadOfLongTexts(t *testing.T) {
	for _, n := range []int{1000, api.MaxText - 1, api.MaxText, api.MaxText + 1, 5 * api.MaxText} {
		checkWrong(t, strings.Repeat("0", n), 64)
		checkWrong(t, strings.Repeat("g", n), 0)
		checkWrong(t, "000"+strings.Repeat(eAcute, n), 3)
	}
}

// Each byte at each place: a letter is read as its half of a byte, another one is refused there.
func TestReadOfEachByteAtEachPlace(t *testing.T) {
	for at := range 64 {
		for b := range 256 {
			s := []byte(right())
			s[at] = byte(b)
			if !strings.ContainsRune(digits, rune(b)) {
				checkWrong(t, string(s), at)
				checkWrong(t, string(s[:at+1]), at)
				checkWrong(t, string(s)+"00", at)
				continue
			}
			want, err := hex.DecodeString(string(s))
			if err != nil {
				t.Fatal(err)
			}
			checkRead(t, string(s), api.Hash(want))
		}
	}
}

// From 64 on no byte may stand, be it a letter or none.
func TestReadOfEachByteBehind(t *testing.T) {
	for b := range 256 {
		one := string([]byte{byte(b)})
		for _, more := range []string{one, one + "0", "0" + one, one + one, strings.Repeat("0", 10) + one} {
			checkWrong(t, right()+more, 64)
		}
	}
}

func TestReadOfTwoWrongBytes(t *testing.T) {
	for _, length := range []int{64, 70} {
		for first := range length {
			for second := first + 1; second < length; second++ {
				for _, wrong := range []string{"G", "\x00", "\xff", "\x80"} {
					s := []byte(strings.Repeat("a", length))
					s[first], s[second] = wrong[0], '!'
					checkWrong(t, string(s), min(first, 64))
				}
			}
		}
	}
}

func TestReadOfCapitals(t *testing.T) {
	for at := range 64 {
		for _, capital := range "ABCDEFG" {
			s := []byte(right())
			s[at] = byte(capital)
			checkWrong(t, string(s), at)
		}
	}
	checkWrong(t, strings.ToUpper(hash.Show(hash.Empty())), 0) // E3B0
}

// Runes of more than one byte, whole and cut, in the midst, over the place 64 and behind it; the place counts bytes.
func TestReadOfLongRunes(t *testing.T) {
	for _, r := range []rune{0x80, 0xe9, 0xff, 0x130, 0x161, 0x660, 0x7ff, 0x800, 0xfffd, 0xff10, 0xff41, 0xfeff, 0xffff, 0x10000, 0x1d7ce, 0x10ffff} {
		whole := string(r)
		for cut := 1; cut <= len(whole); cut++ {
			for at := range 70 {
				s := strings.Repeat(digits, 5)[:at] + whole[:cut]
				checkWrong(t, s, min(at, 64))
				checkWrong(t, s+right(), min(at, 64))
				checkWrong(t, s+whole+"x", min(at, 64))
			}
		}
	}
}

// A rune whose lowest byte is that of a letter is none.
func TestReadOfRunesLikeLetters(t *testing.T) {
	for _, letter := range digits {
		for _, high := range []rune{0x100, 0x300, 0x1000, 0xff00, 0x10000, 0x100000} {
			for _, at := range []int{0, 1, 31, 60, 61, 62, 63} {
				s := right()[:at] + string(high+letter)
				checkWrong(t, s, at)
				checkWrong(t, s+right()[min(len(s), 64):], at)
			}
		}
	}
}

func TestReadOfBytesThatAreNoRunes(t *testing.T) {
	for _, bad := range []string{
		"\x80", "\xbf", "\xc0", "\xc0\xb0", "\xc1\xa1", "\xc3", "\xe0\x80\xb0", "\xe2\x82", "\xed\xa0\x80", "\xf0\x9f", "\xf5\x80\x80\x80", "\xfe", "\xff", "\xff\xff",
	} {
		if utf8.ValidString(bad) {
			t.Fatalf("%q is UTF-8", bad)
		}
		for at := range 70 {
			s := strings.Repeat(digits, 5)[:at] + bad
			checkWrong(t, s, min(at, 64))
			checkWrong(t, s+right(), min(at, 64))
		}
	}
}

// placeOf: the first place at which s goes wrong, as the chapter says it; -1, if none.
func placeOf(s string) int {
	for at := range 64 {
		if at < len(s) && strings.IndexByte(digits, s[at]) < 0 {
			return at
		}
	}
	switch {
	case len(s) > 64:
		return 64
	case len(s) < 64:
		return len(s)
	}
	return -1
}

func TestReadOfSomeTexts(t *testing.T) {
	rnd := rand.New(rand.NewSource(5))
	pieces := []string{"G", eAcute, "\xff", "\x00", " ", "\n", "0x", "0", "a", "ff", "\u2003", "\xc3"}
	found := 0
	for range 20000 {
		s := strings.Repeat(digits, 6)[:50+rnd.Intn(30)]
		if rnd.Intn(4) == 0 {
			s = right()
		}
		for range rnd.Intn(3) {
			at := rnd.Intn(len(s) + 1)
			s = s[:at] + pieces[rnd.Intn(len(pieces))] + s[min(len(s), at+1):]
		}
		if at := placeOf(s); at >= 0 {
			checkWrong(t, s, at)
			continue
		}
		want, err := hex.DecodeString(s)
		if err != nil {
			t.Fatal(err)
		}
		checkRead(t, s, api.Hash(want))
		found++
	}
	if found < 100 {
		t.Errorf("only %d of the texts were hashes", found)
	}
}

func TestReadTellsAFaultOfItsOwn(t *testing.T) {
	var first, second *api.Fault
	_, err := hash.Read("x")
	errors.As(err, &first)
	first.At, first.Err = 7, api.ErrNil
	_, err = hash.Read("x")
	if !errors.As(err, &second) || second == first || second.At != 0 || second.Err != api.ErrInput {
		t.Errorf("a change of one fault changed the next one: %+v", second)
	}
}

// P5.4

func TestChainsAddUp(t *testing.T) {
	for _, h := range []api.Hash{{}, hash.Leaf("a")} {
		all := make([]api.Hash, 256)
		for steps := range all {
			all[steps] = chain(t, h, steps)
		}
		for first := range 256 {
			for more := range 256 - first {
				if first > 3 && more > 3 && (first+more)%17 != 0 {
					continue
				}
				if got := chain(t, all[first], more); got != all[first+more] {
					t.Fatalf("Chain of %d steps, and of %d more = %x, of all = %x", first, more, got, all[first+more])
				}
			}
		}
	}
}

func TestReadOfShow(t *testing.T) {
	for _, h := range someHashes() {
		checkRead(t, hash.Show(h), h)
	}
}

func TestShowOfRead(t *testing.T) {
	for i := range 500 {
		h := sum(someText(i))
		s := hex.EncodeToString(h[:])
		got, err := hash.Read(s)
		if err != nil || hash.Show(got) != s {
			t.Fatalf("Show of Read of %s = %s, %v", s, hash.Show(got), err)
		}
	}
}

func TestOrderIsThatOfTheLetters(t *testing.T) {
	all := someHashes()
	for _, a := range all {
		for _, b := range all {
			if got, want := hash.Cmp(a, b), strings.Compare(hash.Show(a), hash.Show(b)); got != want {
				t.Fatalf("Cmp of %x and %x = %d, of their letters %d", a, b, got, want)
			}
		}
	}
}

func TestSortedByCmp(t *testing.T) {
	all := someHashes()
	slices.SortFunc(all, hash.Cmp)
	var shown []string
	for _, h := range all {
		shown = append(shown, hash.Show(h))
	}
	if !slices.IsSorted(shown) {
		t.Error("what Cmp puts in order is not in the order of its letters")
	}
}
