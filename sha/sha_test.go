package sha_test

import (
	"bytes"
	"crypto/sha256"
	"encoding/hex"
	"math/rand"
	"slices"
	"strings"
	"sync"
	"testing"

	"cartulary/api"
	"cartulary/sha"
)

const (
	ofNone = "e3b0c44298fc1c149afbf4c8996fb92427ae41e4649b934ca495991b7852b855"
	ofAbc  = "ba7816bf8f01cfea414140de5dae2223b00361a396177a9cb410ff61f20015ad"
	ofLong = "248d6a61d20638b8e5c026930c3e6039a33ce45964ff2167f6ecedd419db06c1"
	ofMany = "cdc76e5c9914fb9281a1c7e284d73e67f1809a48a497200e046d39ccc7112cd0"

	long = "abcdbcdecdefdefgefghfghighijhijkijkljklmklmnlmnomnopnopq"
)

// want: SHA of a text, as the library says it.
func want(text string) api.Hash {
	return api.Hash(sha256.Sum256([]byte(text)))
}

// someText: so many bytes, no two neighbouring blocks of them alike.
func someText(count int) string {
	b := make([]byte, count)
	rand.New(rand.NewSource(int64(count))).Read(b)
	return string(b)
}

// edges: lengths where the end of the text falls on, just ahead of or behind an edge of a block.
func edges() []int {
	var all []int
	for block := range 5 {
		for _, n := range []int{0, 1, 2, 54, 55, 56, 57, 62, 63} {
			all = append(all, 64*block+n)
		}
	}
	return all
}

// checkSum: the digest is of that text, and asking changes nothing.
func checkSum(t *testing.T, what string, d *sha.Digest, text string) {
	t.Helper()
	for range 2 {
		if got := d.Sum(); got != want(text) {
			t.Fatalf("%s: Sum of %d bytes = %x, want %x", what, len(text), got, want(text))
		}
		if got := d.Len(); got != uint64(len(text)) {
			t.Fatalf("%s: Len = %d, want %d", what, got, len(text))
		}
	}
}

// cuts: the pieces of a text, cut at those places (in their order).
func cuts(text string, at ...int) []string {
	var parts []string
	from := 0
	for _, to := range at {
		parts = append(parts, text[from:to])
		from = to
	}
	return append(parts, text[from:])
}

// P4.1

func TestSumExamples(t *testing.T) {
	for _, c := range []struct {
		parts []string
		digit string
	}{
		{nil, ofNone}, {[]string{}, ofNone}, {[]string{""}, ofNone}, {[]string{"", ""}, ofNone},
		{[]string{"abc"}, ofAbc}, {[]string{"a", "", "bc"}, ofAbc}, {[]string{"", "abc", ""}, ofAbc}, {[]string{"a", "b", "c"}, ofAbc},
		{[]string{long}, ofLong},
		{slices.Repeat([]string{strings.Repeat("a", 1000)}, 1000), ofMany}, {[]string{strings.Repeat("a", 1000000)}, ofMany},
	} {
		got := sha.Sum(c.parts...)
		if hex.EncodeToString(got[:]) != c.digit {
			t.Errorf("Sum of %d parts = %x, want %s", len(c.parts), got, c.digit)
		}
	}
}

func TestSumOfEachLength(t *testing.T) {
	for n := range 1100 {
		for _, text := range []string{someText(n), strings.Repeat("\x00", n), strings.Repeat("\xff", n), strings.Repeat("\x80", n)} {
			if got := sha.Sum(text); got != want(text) {
				t.Fatalf("Sum of %d bytes, %x .. = %x, want %x", n, text[:min(n, 4)], got, want(text))
			}
		}
	}
}

func TestSumOfLongTexts(t *testing.T) {
	for _, n := range []int{4095, 4096, 8191, 8192, 8193, 65535, 65536, 65537, 1 << 20, 1<<21 + 7} {
		if text := someText(n); sha.Sum(text) != want(text) {
			t.Errorf("Sum of %d bytes = %x, want %x", n, sha.Sum(text), want(text))
		}
	}
}

// A text of more than 2^29 bytes has more than 2^32 bits: their number needs five of its eight bytes.
func TestSumOfVeryLongTexts(t *testing.T) {
	if testing.Short() {
		t.Skip("some seconds")
	}
	piece := strings.Repeat("0123456789abcdef", 1<<16)
	library, d := sha256.New(), sha.New()
	for range 520 {
		library.Write([]byte(piece))
		d.Write([]byte(piece))
	}
	if got := d.Sum(); got != api.Hash(library.Sum(nil)) {
		t.Errorf("Sum of %d bytes = %x, want %x", d.Len(), got, library.Sum(nil))
	}
	if d.Len() != 520<<20 {
		t.Errorf("Len = %d, want %d", d.Len(), 520<<20)
	}
}

// Every single bit of a block, and of the one behind it, counts.
func TestSumOfEachBit(t *testing.T) {
	seen := map[api.Hash]int{}
	for bit := range 8 * 130 {
		b := make([]byte, 130)
		b[bit/8] = 0x80 >> (bit % 8)
		got := sha.Sum(string(b))
		if got != want(string(b)) {
			t.Fatalf("Sum of the bit %d = %x, want %x", bit, got, want(string(b)))
		}
		if other, ok := seen[got]; ok {
			t.Fatalf("the bits %d and %d have one Sum", other, bit)
		}
		seen[got] = bit
	}
}

// The parts are one text: nothing of where they end is in it.
func TestSumPartsAreOneText(t *testing.T) {
	if sha.Sum("a", "bc") != sha.Sum("ab", "c") || sha.Sum("abc", "") != sha.Sum("", "abc") {
		t.Error("Sum tells where its parts end")
	}
	if sha.Sum("a", "b") == sha.Sum("b", "a") || sha.Sum("a") == sha.Sum("a", "\x00") {
		t.Error("Sum forgets the order, or a nought")
	}
}

func TestSumLeavesItsParts(t *testing.T) {
	parts := []string{"a", "", long, someText(200)}
	roomy := append(make([]string, 0, 10), parts...)
	room := roomy[:10]
	sha.Sum(roomy...)
	if !slices.Equal(roomy, parts) || !slices.Equal(room[4:], make([]string, 6)) {
		t.Error("Sum changed the list of its parts")
	}
}

func TestSumIsAnArrayOfItsOwn(t *testing.T) {
	first := sha.Sum("abc")
	first[0] ^= 0xff
	if sha.Sum("abc") != want("abc") {
		t.Error("a change of an answer changed the next one")
	}
}

// P4.2

func TestDigestExample(t *testing.T) {
	d := sha.New()
	checkSum(t, "New", d, "")
	d.Write([]byte("ab"))
	checkSum(t, "ab", d, "ab")
	d.Write([]byte("c"))
	checkSum(t, "c behind it", d, "abc")
	other := d.Copy()
	other.Write([]byte("d"))
	checkSum(t, "what was copied", d, "abc")
	checkSum(t, "the copy", other, "abcd")
}

func TestDigestOfEachLength(t *testing.T) {
	for _, n := range append(edges(), 1000, 4096, 10001) {
		text := someText(n)
		d := sha.New()
		d.Write([]byte(text))
		checkSum(t, "one Write", d, text)
	}
}

func TestWriteOfNothing(t *testing.T) {
	d := sha.New()
	for _, b := range [][]byte{nil, {}, []byte("abc")[:0], []byte("abc"), nil, {}} {
		d.Write(b)
	}
	checkSum(t, "empty Writes", d, "abc")
}

// Sum stands between any two bytes: what is written behind it goes on as if nobody had asked.
func TestWriteGoesOnBehindSum(t *testing.T) {
	text := someText(330)
	asked, never := sha.New(), sha.New()
	for i := range len(text) {
		checkSum(t, "byte by byte", asked, text[:i])
		asked.Write([]byte(text[i : i+1]))
		never.Write([]byte(text[i : i+1]))
	}
	checkSum(t, "asked", asked, text)
	checkSum(t, "never asked", never, text)
}

func TestSumLeavesTheDigest(t *testing.T) {
	for _, n := range edges() {
		d := sha.New()
		d.Write([]byte(someText(n)))
		ahead := *d
		d.Sum()
		d.Len()
		d.Copy()
		if *d != ahead {
			t.Fatalf("of %d bytes: Sum, Len or Copy changed the digest", n)
		}
	}
}

func TestWriteLeavesItsBytes(t *testing.T) {
	for _, n := range edges() {
		text := someText(n)
		room := []byte(text + "spare room")
		d := sha.New()
		d.Write(room[:n])
		if string(room) != text+"spare room" {
			t.Fatalf("Write of %d bytes changed them, or the room behind them", n)
		}
		d.Sum()
		d.Write([]byte("more"))
		if string(room) != text+"spare room" {
			t.Fatalf("what came behind a Write of %d bytes changed them", n)
		}
	}
}

func TestWriteKeepsBytesByContent(t *testing.T) {
	for _, n := range edges() {
		text := someText(n)
		b := []byte(text)
		d := sha.New()
		d.Write(b)
		for i := range b {
			b[i] ^= 0xff
		}
		checkSum(t, "the bytes changed behind Write", d, text)
		d.Write(b)
		checkSum(t, "the changed ones written too", d, text+string(b))
	}
}

func TestDigestThatIsNotThere(t *testing.T) {
	for what, d := range map[string]*sha.Digest{"nil": nil, "a zero struct": {}, "new": new(sha.Digest)} {
		for _, b := range [][]byte{nil, {}, []byte("abc"), bytes.Repeat([]byte("x"), 1000)} {
			d.Write(b)
			if got := d.Sum(); got != (api.Hash{}) {
				t.Errorf("%s: Sum = %x behind a Write of %d bytes", what, got, len(b))
			}
			if got := d.Len(); got != 0 {
				t.Errorf("%s: Len = %d behind a Write of %d bytes", what, got, len(b))
			}
			if got := d.Copy(); got != nil {
				t.Errorf("%s: Copy = %v behind a Write of %d bytes", what, got, len(b))
			}
		}
		if d != nil && *d != (sha.Digest{}) {
			t.Errorf("%s: Write did something", what)
		}
	}
}

// P4.3

func TestCopyGoesOnByItself(t *testing.T) {
	for _, n := range edges() {
		for _, m := range edges() {
			ahead, behind, other := someText(n), someText(m), someText(m+1)
			d := sha.New()
			d.Write([]byte(ahead))
			c := d.Copy()
			if c == d {
				t.Fatal("Copy answers the digest itself")
			}
			checkSum(t, "a fresh copy", c, ahead)
			c.Write([]byte(behind))
			checkSum(t, "the digest, the copy written to", d, ahead)
			checkSum(t, "the copy", c, ahead+behind)
			d.Write([]byte(other))
			checkSum(t, "the digest, both written to", d, ahead+other)
			checkSum(t, "the copy, both written to", c, ahead+behind)
		}
	}
}

func TestCopiesOfCopies(t *testing.T) {
	text := someText(400)
	var all []*sha.Digest
	d := sha.New()
	for i := range len(text) {
		all = append(all, d)
		d = d.Copy()
		d.Write([]byte(text[i : i+1]))
	}
	for i, d := range all {
		checkSum(t, "a copy of a copy", d, text[:i])
	}
	for i, d := range slices.Backward(all) {
		d.Write([]byte(text[i:]))
	}
	for _, d := range all {
		checkSum(t, "each gone on to the end", d, text)
	}
}

func TestCopyOfNoBytes(t *testing.T) {
	d := sha.New()
	c := d.Copy()
	checkSum(t, "a copy of no bytes", c, "")
	c.Write([]byte("abc"))
	checkSum(t, "it goes on", c, "abc")
	checkSum(t, "what was copied", d, "")
}

// P4.4

// Two cuts at all places: into parts with empty ones among them, and into Writes with and without Sum between.
func TestTwoCutsTellTheSame(t *testing.T) {
	text := someText(150)
	for i := 0; i <= len(text); i++ {
		for j := i; j <= len(text); j++ {
			checkCut(t, text, cuts(text, i, j))
		}
	}
}

// checkCut: the pieces tell what the text tells, however they are handed in.
func checkCut(t *testing.T, text string, pieces []string) {
	t.Helper()
	if got := sha.Sum(pieces...); got != want(text) {
		t.Fatalf("Sum of %q = %x, want %x", pieces, got, want(text))
	}
	straight, asked, copied := sha.New(), sha.New(), sha.New()
	sofar := ""
	for _, piece := range pieces {
		sofar += piece
		straight.Write([]byte(piece))
		asked.Write([]byte(piece))
		checkSum(t, "Sum between", asked, sofar)
		copied = copied.Copy()
		copied.Write([]byte(piece))
	}
	checkSum(t, "Writes alone", straight, text)
	checkSum(t, "Writes with Sum between", asked, text)
	checkSum(t, "Writes with Copy between", copied, text)
}

// All cuts of short texts, each place cut or not, and the same with a block ahead of which few bytes are missing.
func TestAllCutsTellTheSame(t *testing.T) {
	for _, ahead := range []int{0, 51, 60, 64, 124} {
		text := someText(ahead + 9)
		for mask := range 1 << 9 {
			var at []int
			for i := range 9 {
				if mask>>i&1 == 1 {
					at = append(at, ahead+i)
				}
			}
			checkCut(t, text, cuts(text, at...))
		}
	}
}

func TestManyCutsTellTheSame(t *testing.T) {
	rnd := rand.New(rand.NewSource(4))
	for range 300 {
		text := someText(rnd.Intn(3000))
		at := make([]int, rnd.Intn(20))
		for i := range at {
			at[i] = rnd.Intn(len(text) + 1)
		}
		slices.Sort(at)
		checkCut(t, text, cuts(text, at...))
	}
}

func TestEvenPiecesTellTheSame(t *testing.T) {
	text := someText(1000)
	for _, size := range []int{1, 2, 3, 7, 8, 31, 32, 33, 55, 56, 63, 64, 65, 127, 128, 129, 500, 999, 1000} {
		var at []int
		for i := size; i < len(text); i += size {
			at = append(at, i)
		}
		checkCut(t, text, cuts(text, at...))
	}
}

func TestEmptyPartsTellNothing(t *testing.T) {
	for _, n := range edges() {
		text := someText(n)
		checkCut(t, text, []string{"", "", text, "", ""})
		checkCut(t, text, []string{"", text[:n/2], "", "", text[n/2:], ""})
	}
}

func TestDigestsHaveNothingToDoWithOneAnother(t *testing.T) {
	var all []*sha.Digest
	texts := make([]string, 40)
	for range texts {
		all = append(all, sha.New())
	}
	rnd := rand.New(rand.NewSource(5))
	for range 2000 {
		i := rnd.Intn(len(all))
		piece := someText(rnd.Intn(100))
		all[i].Write([]byte(piece))
		texts[i] += piece
		j := rnd.Intn(len(all))
		checkSum(t, "one of many", all[j], texts[j])
		sha.Sum(piece)
	}
}

func TestDigestsSideBySide(t *testing.T) {
	text := someText(5000)
	got := make([]api.Hash, 16)
	from := sha.New()
	from.Write([]byte(text[:100]))
	var all sync.WaitGroup
	for i := range got {
		all.Go(func() {
			d := from.Copy()
			for j := 100; j < len(text); j += i + 1 {
				d.Write([]byte(text[j:min(j+i+1, len(text))]))
			}
			got[i] = d.Sum()
		})
	}
	all.Wait()
	for i, h := range got {
		if h != want(text) {
			t.Errorf("the digest %d = %x, want %x", i, h, want(text))
		}
	}
}
