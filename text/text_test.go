package text_test

import (
	"encoding/base64"
	"encoding/hex"
	"errors"
	"math"
	"math/big"
	"math/rand"
	"slices"
	"strconv"
	"strings"
	"testing"
	"unicode"
	"unicode/utf8"
	"unsafe"

	"cartulary/api"
	"cartulary/text"
)

// tableErrors are the errors of the document's table, in its order.
func tableErrors() []error {
	return []error{
		api.ErrNil, api.ErrArg, api.ErrInput, api.ErrLimit, api.ErrRange, api.ErrGone, api.ErrUnavailable, api.ErrDead,
		api.ErrCorrupt, api.ErrProof, api.ErrSpent, api.ErrSigned, api.ErrFork, api.ErrOld, api.ErrStopped, api.ErrScript,
	}
}

// checkOnly: got is that error of the table, and no other one.
func checkOnly(t *testing.T, what string, got, want error) {
	t.Helper()
	for _, e := range tableErrors() {
		if errors.Is(got, e) != (e == want) {
			t.Fatalf("%s: got %v, want %v: errors.Is says %v of %v", what, got, want, errors.Is(got, e), e)
		}
	}
}

// checkWrong: got is ErrInput at that place.
func checkWrong(t *testing.T, what string, got error, at int) {
	t.Helper()
	checkOnly(t, what, got, api.ErrInput)
	var f *api.Fault
	if !errors.As(got, &f) || f.At != at {
		t.Fatalf("%s: got %+v, want the place %d", what, f, at)
	}
}

// checkAbove: got is ErrLimit, and tells no place.
func checkAbove(t *testing.T, what string, got error) {
	t.Helper()
	checkOnly(t, what, got, api.ErrLimit)
	var f *api.Fault
	if errors.As(got, &f) && f.At != 0 {
		t.Fatalf("%s: got the place %d of an ErrLimit", what, f.At)
	}
}

// form is one of the three that are told and read, with what the library and the document's words say of it.
type form struct {
	name     string
	read     func(string) (string, error) // answers what was read, told again by the library
	mayBe    func(string) bool
	ends     []string // each beginning of one that may be is one with one of these behind it
	alphabet string   // of which wrong texts are made
}

func forms() []form {
	return []form{
		{"FromBase64", readBase64, isBase64, []string{"", "A", "AA", "AAA", "=", "=="}, "AQRIJ=-\n"},
		{"FromHex", readHex, isHex, []string{"", "0"}, "09afgAF+"},
		{"FromDecimal", readDecimal, isDecimal, []string{"", "0"}, "0149a-+ "},
	}
}

func readBase64(s string) (string, error) {
	b, err := text.FromBase64(s)
	if err != nil {
		return b, err
	}
	return base64.StdEncoding.EncodeToString([]byte(b)), nil
}

func readHex(s string) (string, error) {
	b, err := text.FromHex(s)
	if err != nil {
		return b, err
	}
	return hex.EncodeToString([]byte(b)), nil
}

func readDecimal(s string) (string, error) {
	n, err := text.FromDecimal(s)
	if err != nil && n == 0 {
		return "", err
	}
	return strconv.FormatUint(n, 10), err
}

// The library reads more than one form; told again, only the one is what was read.

func isBase64(s string) bool {
	b, err := base64.StdEncoding.Strict().DecodeString(s)
	return err == nil && base64.StdEncoding.EncodeToString(b) == s
}

func isHex(s string) bool {
	b, err := hex.DecodeString(s)
	return err == nil && hex.EncodeToString(b) == s
}

func isDecimal(s string) bool {
	n, ok := new(big.Int).SetString(s, 10)
	return ok && n.IsUint64() && n.String() == s
}

// isBeginning: of a text that may be.
func (f form) isBeginning(s string) bool {
	return slices.ContainsFunc(f.ends, func(end string) bool { return f.mayBe(s + end) })
}

// goesWrong: how many bytes the longest beginning of s has that is also one of a text that may be.
func (f form) goesWrong(s string) int {
	at := len(s)
	for !f.isBeginning(s[:at]) {
		at--
	}
	return at
}

// check: s is read and told again as it was, or refused where it goes wrong.
func (f form) check(t *testing.T, s string) {
	t.Helper()
	what := f.name + " of " + strconv.Quote(s)
	got, err := f.read(s)
	if f.mayBe(s) {
		if got != s || err != nil {
			t.Fatalf("%s answers what is told %q, and %v", what, got, err)
		}
		return
	}
	if got != "" {
		t.Fatalf("%s answers something beside an error: what is told %q", what, got)
	}
	checkWrong(t, what, err, f.goesWrong(s))
}

// texts: all of at most so many letters of an alphabet.
func texts(alphabet string, most int) []string {
	all, last := []string{""}, []string{""}
	for range most {
		var next []string
		for _, s := range last {
			for i := range len(alphabet) {
				next = append(next, s+alphabet[i:i+1])
			}
		}
		all, last = append(all, next...), next
	}
	return all
}

// someBytes: so many, each row of them another one.
func someBytes(rnd *rand.Rand, count int) string {
	b := make([]byte, count)
	rnd.Read(b)
	return string(b)
}

// told: bytes of each length from none on, and rows of one byte alone.
func told() []string {
	rnd := rand.New(rand.NewSource(1))
	var all []string
	for n := range 70 {
		all = append(all, strings.Repeat("\x00", n), strings.Repeat("\xff", n), someBytes(rnd, n), someBytes(rnd, n))
	}
	for b := range 256 {
		one := string([]byte{byte(b)})
		all = append(all, one, one+"\x00", "\x00"+one, "\xff"+one, one+"\x00\x00", "\x00"+one+"\x00", "\x00\x00"+one, "\xff\xff"+one)
	}
	return append(all, someBytes(rnd, 10000), someBytes(rnd, 10001), someBytes(rnd, 10002))
}

func numbers() []uint64 {
	all := []uint64{0, 1, 9, 10, 11, 99, 100, 101, 1 << 63, math.MaxInt64, math.MaxUint64 - 1, math.MaxUint64}
	for p := uint64(1); ; p *= 10 {
		all = append(all, p-1, p, p+1, p*9)
		if p > math.MaxUint64/10 {
			break
		}
	}
	for i := range 64 {
		all = append(all, 1<<i-1, 1<<i, 1<<i+1)
	}
	rnd := rand.New(rand.NewSource(2))
	for range 1000 {
		all = append(all, rnd.Uint64()>>rnd.Intn(64))
	}
	return all
}

// P3.1

func TestBase64Examples(t *testing.T) {
	for _, c := range []struct{ bytes, letters string }{
		{"", ""}, {"A", "QQ=="}, {"AB", "QUI="}, {"ABC", "QUJD"}, {"\xff\xfe", "//4="},
		{"\x00", "AA=="}, {"\x00\x00", "AAA="}, {"\x00\x00\x00", "AAAA"}, {"\xff", "/w=="}, {"\xff\xff\xff", "////"},
		{"\xfb\xef\xbe", "++++"}, {"ABCD", "QUJDRA=="},
	} {
		if got := text.Base64(c.bytes); got != c.letters {
			t.Errorf("Base64(%q) = %q, want %q", c.bytes, got, c.letters)
		}
		if got, err := text.FromBase64(c.letters); got != c.bytes || err != nil {
			t.Errorf("FromBase64(%q) = %q, %v; want %q", c.letters, got, err, c.bytes)
		}
	}
}

func TestBase64TellsTheLibrarysLetters(t *testing.T) {
	for _, s := range told() {
		if got, want := text.Base64(s), base64.StdEncoding.EncodeToString([]byte(s)); got != want {
			t.Fatalf("Base64(%x) = %q, want %q", s, got, want)
		}
	}
}

func TestFromBase64Refuses(t *testing.T) {
	for _, c := range []struct {
		s  string
		at int
	}{
		{"QR==", 2}, {"QUJ=", 3}, {"QQ=A", 3}, {"QQ==QQ==", 4}, {"Q", 1}, {"QQ", 2}, {"QQ=", 3}, {"=", 0}, {"Q-Q=", 1},
		{"==", 0}, {"====", 0}, {"Q=", 1}, {"Q===", 1}, {"QR=", 2}, {"QUI", 3}, {"QUJ", 3}, {"QUI=Q", 4}, {"QUI==", 4},
		{"QQ===", 4}, {"QQ==\n", 4}, {"QUJD=", 4}, {"QUJDQ", 5}, {"QUJDQQ", 6}, {"QUJDQQ=", 7}, {"QUJDQUJ=", 7},
		{" QUJD", 0}, {"QUJD ", 4}, {"QU\nJD", 2}, {"QU\rJD", 2}, {"QUJ\x00", 3}, {"QUJ\xff", 3}, {"_-_-", 0}, {"é", 0},
	} {
		got, err := text.FromBase64(c.s)
		if got != "" {
			t.Errorf("FromBase64(%q) = %q beside an error", c.s, got)
		}
		checkWrong(t, "FromBase64 of "+strconv.Quote(c.s), err, c.at)
	}
}

// All pairs and triples of letters ahead of a filler: just those pass whose last bits are 0.
func TestFromBase64LastBits(t *testing.T) {
	const letters = "ABCDEFGHIJKLMNOPQRSTUVWXYZabcdefghijklmnopqrstuvwxyz0123456789+/"
	f := forms()[0]
	for i := range 64 {
		for _, ahead := range []string{"A", "/", "QUJDQ"} {
			f.check(t, ahead+letters[i:i+1]+"==")
			f.check(t, ahead+"x"+letters[i:i+1]+"=")
			f.check(t, ahead+"xy"+letters[i:i+1])
		}
	}
}

// P3.2

func TestHexExamples(t *testing.T) {
	for _, c := range []struct{ bytes, digits string }{{"", ""}, {"A\x0f", "410f"}, {"\x00", "00"}, {"\xff", "ff"}, {"\x9a\xbc", "9abc"}} {
		if got := text.Hex(c.bytes); got != c.digits {
			t.Errorf("Hex(%q) = %q, want %q", c.bytes, got, c.digits)
		}
		if got, err := text.FromHex(c.digits); got != c.bytes || err != nil {
			t.Errorf("FromHex(%q) = %q, %v; want %q", c.digits, got, err, c.bytes)
		}
	}
}

func TestHexTellsTheLibrarysDigits(t *testing.T) {
	for _, s := range told() {
		if got, want := text.Hex(s), hex.EncodeToString([]byte(s)); got != want {
			t.Fatalf("Hex(%x) = %q, want %q", s, got, want)
		}
	}
}

func TestFromHexRefuses(t *testing.T) {
	for _, c := range []struct {
		s  string
		at int
	}{
		{"41F", 2}, {"4", 1}, {"4g", 1}, {"410", 3}, {"A0", 0}, {"aA", 1}, {"aB0", 1}, {"0F", 1}, {"aaF", 2}, {"aaaF", 3},
		{"0x41", 1}, {" 41", 0}, {"41 ", 2}, {"4\n1", 1}, {"g", 0}, {"\x00", 0}, {"4\xff", 1}, {"é", 0},
	} {
		got, err := text.FromHex(c.s)
		if got != "" {
			t.Errorf("FromHex(%q) = %q beside an error", c.s, got)
		}
		checkWrong(t, "FromHex of "+strconv.Quote(c.s), err, c.at)
	}
}

// P3.3

func TestDecimalTellsTheNumber(t *testing.T) {
	for _, n := range numbers() {
		want := new(big.Int).SetUint64(n).String()
		if got := text.Decimal(n); got != want {
			t.Errorf("Decimal(%d) = %q", n, got)
		}
		if got, err := text.FromDecimal(want); got != n || err != nil {
			t.Errorf("FromDecimal(%q) = %d, %v", want, got, err)
		}
	}
}

func TestFromDecimalRefuses(t *testing.T) {
	for _, c := range []struct {
		s  string
		at int
	}{
		{"", 0}, {"01", 1}, {"18446744073709551616", 19}, {"99999999999999999999", 19}, {"+1", 0}, {"1a", 1},
		{"00", 1}, {"000", 1}, {"0a", 1}, {"0 ", 1}, {"-1", 0}, {"-0", 0}, {" 1", 0}, {"1 ", 1}, {"1\n", 1}, {"1_0", 1}, {"0x1", 1},
		{"1e3", 1}, {"1.0", 1}, {"\x00", 0}, {"1\xff", 1}, {"f", 0}, {"12f", 2}, {"٣", 0}, {"1٣", 1},
		{"184467440737095516150", 20}, {"18446744073709551619", 19}, {"18446744073709551620", 19}, {"18446744073709551615a", 20},
		{"18446744073709551600", -1}, {"18446744073709551609", -1}, {"1844674407370955161a", 19}, {"36893488147419103232", 19},
		{"100000000000000000000", 20}, {"999999999999999999999", 19}, {"20000000000000000000", 19}, {"018446744073709551615", 1},
	} {
		got, err := text.FromDecimal(c.s)
		if c.at < 0 {
			if err != nil || strconv.FormatUint(got, 10) != c.s {
				t.Errorf("FromDecimal(%q) = %d, %v", c.s, got, err)
			}
			continue
		}
		if got != 0 {
			t.Errorf("FromDecimal(%q) = %d beside an error", c.s, got)
		}
		checkWrong(t, "FromDecimal of "+strconv.Quote(c.s), err, c.at)
	}
}

// Around 2^64, and each of its multiples by up to ten: where a product would wrap round.
func TestFromDecimalAboveTheGreatest(t *testing.T) {
	f := forms()[2]
	end := new(big.Int).Lsh(big.NewInt(1), 64)
	for times := range int64(11) {
		for more := int64(-30); more <= 30; more++ {
			n := new(big.Int).Mul(end, big.NewInt(times+1))
			f.check(t, n.Add(n, big.NewInt(more)).String())
		}
	}
}

// P3.1 to P3.3, P3.6

func TestShortTextsAreReadOrRefused(t *testing.T) {
	for _, f := range forms() {
		for _, s := range texts(f.alphabet, 5) {
			f.check(t, s)
		}
	}
}

// Each byte at each place of a text that may be, in the place of the one there and ahead of it; and each beginning.
func TestOneWrongByte(t *testing.T) {
	good := [][]string{
		{"QQ==", "QUI=", "QUJD", "QUJDQQ==", "QUJDQUI=", "QUJDQUJD", "//4="},
		{"00", "410f", "09afff"},
		{"0", "7", "10", "18446744073709551615", "18446744073709551609", "9999999999999999999", "10000000000000000000"},
	}
	for i, f := range forms() {
		for _, s := range good[i] {
			for at := range len(s) + 1 {
				f.check(t, s[:at])
				for b := range 256 {
					one := string([]byte{byte(b)})
					f.check(t, s[:at]+one+s[at:])
					f.check(t, s[:at]+one+s[min(at+1, len(s)):])
				}
			}
		}
	}
}

func TestLongerTextsAreReadOrRefused(t *testing.T) {
	rnd := rand.New(rand.NewSource(3))
	for range 2000 {
		s := someBytes(rnd, rnd.Intn(40))
		for i, good := range []string{base64.StdEncoding.EncodeToString([]byte(s)), hex.EncodeToString([]byte(s)), strconv.FormatUint(rnd.Uint64(), 10)} {
			f := forms()[i]
			f.check(t, good)
			at := rnd.Intn(len(good) + 1)
			put := f.alphabet[rnd.Intn(len(f.alphabet))]
			f.check(t, good[:at]+string([]byte{put})+good[at:])
			f.check(t, good[at:])
			f.check(t, good+good)
		}
	}
}

func TestWhatIsToldIsRead(t *testing.T) {
	for _, s := range told() {
		if got, err := text.FromBase64(text.Base64(s)); got != s || err != nil {
			t.Fatalf("%x by letters is read as %x, %v", s, got, err)
		}
		if got, err := text.FromHex(text.Hex(s)); got != s || err != nil {
			t.Fatalf("%x by digits is read as %x, %v", s, got, err)
		}
	}
	for _, n := range numbers() {
		if got, err := text.FromDecimal(text.Decimal(n)); got != n || err != nil {
			t.Fatalf("%d by digits is read as %d, %v", n, got, err)
		}
	}
}

// What is read, told again by the package itself, is the text that was read.
func TestWhatIsReadHasOneForm(t *testing.T) {
	read := 0
	for _, s := range texts("0AQg=/", 6) {
		if b, err := text.FromBase64(s); err == nil {
			read++
			if again := text.Base64(b); again != s {
				t.Fatalf("%q is read as %x, which is told %q", s, b, again)
			}
		}
	}
	for _, s := range texts("0189afA", 6) {
		if b, err := text.FromHex(s); err == nil {
			read++
			if again := text.Hex(b); again != s {
				t.Fatalf("%q is read as %x, which is told %q", s, b, again)
			}
		}
		if n, err := text.FromDecimal(s); err == nil {
			read++
			if again := text.Decimal(n); again != s {
				t.Fatalf("%q is read as %d, which is told %q", s, n, again)
			}
		}
	}
	if read < 10000 {
		t.Errorf("only %d texts were read: too few to say anything", read)
	}
}

// Two texts with a common beginning that goes wrong within it go wrong at one place.
func TestWrongAtOnePlace(t *testing.T) {
	rnd := rand.New(rand.NewSource(4))
	for _, f := range forms() {
		for _, s := range texts(f.alphabet, 4) {
			at := f.goesWrong(s)
			if at == len(s) {
				continue
			}
			for _, behind := range []string{"", "A", "==", "0", s, someBytes(rnd, 20)} {
				_, err := f.read(s[:at+1] + behind)
				checkWrong(t, f.name+" of "+strconv.Quote(s[:at+1]+behind), err, at)
			}
		}
	}
}

// The limit MaxText: at it, and one above, where ErrLimit is told ahead of ErrInput.
func TestReadAtTheLimit(t *testing.T) {
	full := strings.Repeat("0", api.MaxText)
	if got, err := text.FromHex(full); got != strings.Repeat("\x00", 524288) || err != nil {
		t.Errorf("FromHex of MaxText noughts: %d bytes, %v", len(got), err)
	}
	letters := strings.Repeat("A", api.MaxText)
	if got, err := text.FromBase64(letters); got != strings.Repeat("\x00", 786432) || err != nil {
		t.Errorf("FromBase64 of MaxText letters: %d bytes, %v", len(got), err)
	}
	_, err := text.FromBase64(letters[1:])
	checkWrong(t, "FromBase64 of one letter less", err, api.MaxText-1)
	_, err = text.FromHex(full[1:])
	checkWrong(t, "FromHex of one digit less", err, api.MaxText-1)
	_, err = text.FromDecimal(full)
	checkWrong(t, "FromDecimal of MaxText noughts", err, 1)
	_, err = text.FromDecimal(strings.Repeat("1", api.MaxText))
	checkWrong(t, "FromDecimal of MaxText ones", err, 20)

	for _, s := range []string{full + "0", letters + "A", letters + "AAAA", strings.Repeat("\xff", api.MaxText+1), full + full} {
		for _, f := range forms() {
			got, err := f.read(s)
			if got != "" {
				t.Errorf("%s of a text above the limit answers %.20q", f.name, got)
			}
			checkAbove(t, f.name, err)
		}
	}
}

// What is told has no limit of its own.
func TestToldAboveTheLimit(t *testing.T) {
	s := strings.Repeat("\x00", api.MaxText+1)
	if got := text.Hex(s); got != strings.Repeat("0", 2*api.MaxText+2) {
		t.Errorf("Hex of a long text has %d digits", len(got))
	}
	if got := text.Base64(s); got != base64.StdEncoding.EncodeToString([]byte(s)) {
		t.Errorf("Base64 of a long text has %d letters", len(got))
	}
}

// An answer's fault is the caller's own.
func TestFaultsAreNotShared(t *testing.T) {
	for range 2 {
		_, err := text.FromHex("4")
		checkWrong(t, "FromHex", err, 1)
		var f *api.Fault
		errors.As(err, &f)
		f.At, f.Err = 99, api.ErrDead
	}
	_, err := text.Lines("a")
	checkWrong(t, "Lines", err, 1)
}

// P3.4

func TestNameAndPlainExamples(t *testing.T) {
	for _, c := range []struct {
		s           string
		name, plain bool
	}{
		{"a", true, true}, {"", false, true}, {"a b", false, true}, {"a+b", false, true}, {"+", false, true},
		{strings.Repeat("a", 64), true, true}, {strings.Repeat("a", 65), false, true},
		{"\xff", false, false}, {"a\u00a0", false, true}, {"a b+c", false, true}, {"a\n", false, false}, {"\u0085", false, false},
		{strings.Repeat(" ", 4096), false, true}, {strings.Repeat(" ", 4097), false, false},
		{"example.org/log", true, true}, {"é", true, true}, {"名前", true, true}, {"\U0001f4dc", true, true},
		{"=", true, true}, {"\u200b", true, true}, {"\ufeff", true, true}, {"\u180e", true, true}, // no blanks, though nothing is to be seen
	} {
		if got := text.Name(c.s); got != c.name {
			t.Errorf("Name(%.70q) = %v", c.s, got)
		}
		if got := text.Plain(c.s); got != c.plain {
			t.Errorf("Plain(%.70q) = %v", c.s, got)
		}
	}
}

func isControl(r rune) bool { return r <= 0x1f || r == 0x7f || r >= 0x80 && r <= 0x9f }

// isBlank: the library's blanks that are no controls, and the rune 133, are the document's.
func isBlank(r rune) bool { return r == 133 || unicode.IsSpace(r) && !isControl(r) }

// Every rune there is, alone and among others.
func TestEveryRune(t *testing.T) {
	blanks := 0
	for r := rune(0); r <= unicode.MaxRune; r++ {
		if !utf8.ValidRune(r) {
			continue
		}
		if isBlank(r) {
			blanks++
		}
		name, plain := !isControl(r) && !isBlank(r) && r != '+', !isControl(r)
		for _, s := range []string{string(r), "a" + string(r), string(r) + "z", "é" + string(r) + "名"} {
			if text.Name(s) != name || text.Plain(s) != plain {
				t.Fatalf("%q: Name says %v, Plain %v", s, text.Name(s), text.Plain(s))
			}
		}
	}
	if blanks != 20 {
		t.Errorf("there are %d blanks here, and 20 in the document", blanks)
	}
}

func TestBrokenTexts(t *testing.T) {
	for _, s := range []string{
		"\x80", "\xbf", "\xc0", "\xc3", "\xe2", "\xe2\x82", "\xf0\x9f\x93", "\xfe", "\xff", // alone, or cut
		"\xc0\x80", "\xc1\xbf", "\xe0\x80\x80", "\xe0\x9f\xbf", "\xf0\x80\x80\x80", "\xf0\x8f\xbf\xbf", // longer than they need be
		"\xed\xa0\x80", "\xed\xbf\xbf", "\xf4\x90\x80\x80", "\xf5\x80\x80\x80", "\xf8\x88\x80\x80\x80", // no runes
		"\xc3\xa9\xa9", "\xe9",
	} {
		for _, whole := range []string{s, "a" + s, s + "a", "é" + s + "é", "\ufffd" + s} {
			if text.Name(whole) || text.Plain(whole) {
				t.Errorf("%q is broken: Name says %v, Plain %v", whole, text.Name(whole), text.Plain(whole))
			}
		}
	}
	const replacement = "\ufffd" // by which a range over a broken text tells a broken byte, is a rune as others are
	if !text.Name(replacement) || !text.Plain(replacement) {
		t.Error("the rune fffd is refused")
	}
	for b := range 256 { // a byte alone is a rune below 128 only
		s := string([]byte{byte(b)})
		if plain := b < 127 && b > 31; text.Plain(s) != plain || text.Name(s) != (plain && b != ' ' && b != '+') {
			t.Errorf("%q: Name says %v, Plain %v", s, text.Name(s), text.Plain(s))
		}
	}
}

// The limits are of bytes, not of runes.
func TestNameAndPlainAtTheirLimits(t *testing.T) {
	for _, r := range []string{"a", "é", "名", "\U0001f4dc"} {
		fill := func(n int) string { return strings.Repeat(r, n/len(r)) + strings.Repeat("z", n%len(r)) }
		for n := 1; n <= api.MaxName; n++ {
			if s := fill(n); !text.Name(s) || !text.Plain(s) {
				t.Errorf("%q of %d bytes is no name, or not plain", s, n)
			}
		}
		if s := fill(api.MaxName + 1); text.Name(s) || !text.Plain(s) {
			t.Errorf("%q of %d bytes: Name %v, Plain %v", s, len(s), text.Name(s), text.Plain(s))
		}
		if !text.Plain(fill(api.MaxLine)) || text.Plain(fill(api.MaxLine+1)) || text.Plain(fill(api.MaxText+9)) {
			t.Errorf("Plain of texts of %q does not end at MaxLine", r)
		}
	}
	long := strings.Repeat("a", api.MaxLine-1)
	if text.Plain(long+"\t") || text.Plain("\x7f"+long) || text.Plain(long+"\xff") || !text.Plain(long+" ") {
		t.Error("a long text is judged otherwise than by all of its runes")
	}
	short := strings.Repeat("a", api.MaxName-1)
	if text.Name(short+"+") || text.Name("+"+short) || text.Name(short+" ") || text.Name(short+"\n") || text.Name(short+"\xff") {
		t.Error("a name of MaxName bytes is judged otherwise than by all of its runes")
	}
}

// P3.6
func TestNamesArePlain(t *testing.T) {
	rnd := rand.New(rand.NewSource(5))
	pieces := []string{"a", "é", "名", "+", " ", "\u2003", "\n", "\xff", "\x9f", "z", "0", "/", ".", "-"}
	names := 0
	for range 100000 {
		var s strings.Builder
		for range rnd.Intn(6) {
			s.WriteString(pieces[rnd.Intn(len(pieces))])
		}
		if text.Name(s.String()) {
			names++
			if !text.Plain(s.String()) {
				t.Fatalf("the name %q is not plain", s.String())
			}
		}
	}
	if names < 1000 {
		t.Errorf("only %d names: too few to say anything", names)
	}
}

// P3.5

func TestLinesExamples(t *testing.T) {
	for _, c := range []struct {
		s    string
		want []string
		at   int
	}{
		{"", nil, -1}, {"a\n", []string{"a"}, -1}, {"a\n\nb\n", []string{"a", "", "b"}, -1}, {"a", nil, 1}, {"a\nb", nil, 3},
		{"\n", []string{""}, -1}, {"\n\n\n", []string{"", "", ""}, -1}, {"\na\n", []string{"", "a"}, -1}, {"a\n\n", []string{"a", ""}, -1},
		{"a\r\n", []string{"a\r"}, -1}, {"a\r", nil, 2}, {"\xff\x00\n\u2028\u0085\n", []string{"\xff\x00", "\u2028\u0085"}, -1},
		{"\n ", nil, 2}, {" ", nil, 1}, {"\n\n\nabc", nil, 6}, {"é", nil, 2},
	} {
		got, err := text.Lines(c.s)
		if !slices.Equal(got, c.want) {
			t.Errorf("Lines(%q) = %q, want %q", c.s, got, c.want)
		}
		if c.at >= 0 {
			checkWrong(t, "Lines of "+strconv.Quote(c.s), err, c.at)
		} else if err != nil {
			t.Errorf("Lines(%q): %v", c.s, err)
		}
	}
}

func TestLinesAtTheLimit(t *testing.T) {
	feeds := strings.Repeat("\n", api.MaxText)
	got, err := text.Lines(feeds)
	if len(got) != api.MaxText || err != nil || slices.ContainsFunc(got, func(l string) bool { return l != "" }) {
		t.Errorf("Lines of MaxText line feeds: %d lines, %v", len(got), err)
	}
	long := strings.Repeat("a", api.MaxText-1)
	if got, err := text.Lines(long + "\n"); len(got) != 1 || got[0] != long || err != nil {
		t.Errorf("Lines of one long line: %d lines, %v", len(got), err)
	}
	_, err = text.Lines(long + "a")
	checkWrong(t, "Lines without a line feed", err, api.MaxText)
	for _, s := range []string{feeds + "\n", long + "aa", long + "a\n"} { // ErrLimit ahead of ErrInput
		got, err := text.Lines(s)
		if len(got) != 0 {
			t.Errorf("Lines above the limit answers %d lines", len(got))
		}
		checkAbove(t, "Lines", err)
	}
}

// P3.6: lines that are put behind one another, a line feed behind each, are the text; and none has a line feed.
func TestLinesAreTheText(t *testing.T) {
	for _, s := range texts("a\n\r\xff", 6) {
		lines, err := text.Lines(s)
		if s != "" && s[len(s)-1] != '\n' {
			if len(lines) != 0 {
				t.Fatalf("Lines(%q) = %q beside an error", s, lines)
			}
			checkWrong(t, "Lines of "+strconv.Quote(s), err, len(s))
			continue
		}
		var whole strings.Builder
		for _, l := range lines {
			if strings.Contains(l, "\n") {
				t.Fatalf("Lines(%q) = %q", s, lines)
			}
			whole.WriteString(l + "\n")
		}
		if whole.String() != s || err != nil {
			t.Fatalf("Lines(%q) = %q, %v", s, lines, err)
		}
	}
}

// overlap: do two texts share memory?
func overlap(a, b string) bool {
	if a == "" || b == "" {
		return false
	}
	from, other := uintptr(unsafe.Pointer(unsafe.StringData(a))), uintptr(unsafe.Pointer(unsafe.StringData(b)))
	return from < other+uintptr(len(b)) && other < from+uintptr(len(a))
}

// R4. Lines of one byte are left out: the language itself may keep those once for all.
func TestLinesAreNewMemory(t *testing.T) {
	s := string([]byte("the first line\nthe second one\n\nthe first line\n"))
	first, _ := text.Lines(s)
	second, _ := text.Lines(s)
	all := append(slices.Clone(first), second...)
	for i, a := range all {
		if overlap(a, s) {
			t.Errorf("the line %q shares memory with what was handed in", a)
		}
		for _, b := range all[:i] {
			if overlap(a, b) {
				t.Errorf("two lines share memory: %q, %q", a, b)
			}
		}
	}
	want := slices.Clone(second)
	first[0] = "another"
	_ = append(first[:2], "a", "b", "c")
	if !slices.Equal(second, want) {
		t.Errorf("two answers share a list: %q", second)
	}
}
