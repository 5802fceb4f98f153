package store_test

import (
	"errors"
	"fmt"
	"math"
	"math/rand"
	"slices"
	"strings"
	"testing"
	"unsafe"

	"cartulary/api"
	"cartulary/store"
)

// tableErrors are the errors of the document's table, in its order.
func tableErrors() []error {
	return []error{
		api.ErrNil, api.ErrArg, api.ErrInput, api.ErrLimit, api.ErrRange, api.ErrGone, api.ErrUnavailable, api.ErrDead,
		api.ErrCorrupt, api.ErrProof, api.ErrSpent, api.ErrSigned, api.ErrFork, api.ErrOld, api.ErrStopped, api.ErrScript,
	}
}

// checkOnly: got is that error of the table, no other one, and tells no place; nil, if none is wanted.
func checkOnly(t *testing.T, what string, got, want error) {
	t.Helper()
	if want == nil && got != nil {
		t.Fatalf("%s: %v", what, got)
	}
	for _, e := range tableErrors() {
		if errors.Is(got, e) != (e == want) {
			t.Fatalf("%s: got %v, want %v: errors.Is says %v of %v", what, got, want, errors.Is(got, e), e)
		}
	}
	var f *api.Fault
	if errors.As(got, &f) && f.At != 0 {
		t.Fatalf("%s tells the place %d", what, f.At)
	}
}

func trouble(crash int, reads ...int) api.Trouble { return api.Trouble{Reads: reads, Crash: crash} }

// plain is a store by the chapter's words: a list of names, each with its text, gone through from its beginning on.
type plain struct {
	names, texts  []string
	failing       []int
	crash         int
	reads, writes int
	dead          bool
}

// wantMayBe: each is at least 1, and below each one behind it.
func wantMayBe(x api.Trouble) bool {
	for i, k := range x.Reads {
		if k < 1 {
			return false
		}
		for _, later := range x.Reads[i+1:] {
			if later <= k {
				return false
			}
		}
	}
	return true
}

func wantName(name string) bool { return len(name) >= 1 && len(name) <= 256 }

func newPlain(x api.Trouble) *plain {
	return &plain{failing: slices.Clone(x.Reads), crash: x.Crash}
}

func (p *plain) lay(name, text string) {
	if at := slices.Index(p.names, name); at >= 0 {
		p.texts[at] = text
		return
	}
	p.names, p.texts = append(p.names, name), append(p.texts, text)
}

func (p *plain) put(name, text string) error {
	if !wantName(name) {
		return api.ErrArg
	}
	if p.dead {
		return api.ErrDead
	}
	p.writes++
	switch {
	case p.crash > 0 && p.crash == p.writes:
		p.dead = true
		return api.ErrDead
	case p.crash < 0 && p.crash+p.writes == 0:
		p.lay(name, text)
		p.dead = true
		return api.ErrDead
	}
	p.lay(name, text)
	return nil
}

func (p *plain) get(name string) (string, error) {
	if !wantName(name) {
		return "", api.ErrArg
	}
	if p.dead {
		return "", api.ErrDead
	}
	p.reads++
	if slices.Contains(p.failing, p.reads) {
		return "", api.ErrUnavailable
	}
	at := slices.Index(p.names, name)
	if at < 0 {
		return "", api.ErrGone
	}
	return p.texts[at], nil
}

func (p *plain) restart(x api.Trouble) error {
	if !wantMayBe(x) {
		return api.ErrArg
	}
	p.failing, p.crash = slices.Clone(x.Reads), x.Crash
	p.reads, p.writes, p.dead = 0, 0, false
	return nil
}

func (p *plain) rising() []string {
	all := slices.Clone(p.names)
	slices.SortFunc(all, func(a, b string) int { return slices.Compare([]byte(a), []byte(b)) })
	return all
}

// The checks of one call each.

func made(t *testing.T, x api.Trouble) *store.Store {
	t.Helper()
	s, err := store.New(x)
	checkOnly(t, fmt.Sprintf("New(%v)", x), err, nil)
	if s == nil {
		t.Fatalf("New(%v) makes no store", x)
	}
	return s
}

func checkNoNew(t *testing.T, x api.Trouble) {
	t.Helper()
	s, err := store.New(x)
	checkOnly(t, fmt.Sprintf("New(%v)", x), err, api.ErrArg)
	if s != nil {
		t.Fatalf("New(%v) makes a store beside an error", x)
	}
}

func checkPut(t *testing.T, s *store.Store, name, text string, want error) {
	t.Helper()
	checkOnly(t, fmt.Sprintf("Put(%.40q, %.40q)", name, text), s.Put(name, text), want)
}

func checkGet(t *testing.T, s *store.Store, name, want string) {
	t.Helper()
	text, err := s.Get(name)
	checkOnly(t, fmt.Sprintf("Get(%.40q)", name), err, nil)
	if text != want {
		t.Fatalf("Get(%.40q) = %.40q, want %.40q", name, text, want)
	}
}

func checkNoGet(t *testing.T, s *store.Store, name string, want error) {
	t.Helper()
	text, err := s.Get(name)
	checkOnly(t, fmt.Sprintf("Get(%.40q)", name), err, want)
	if text != "" {
		t.Fatalf("Get(%.40q) = %.40q beside an error", name, text)
	}
}

func checkRestart(t *testing.T, s *store.Store, x api.Trouble, want error) {
	t.Helper()
	checkOnly(t, fmt.Sprintf("Restart(%v)", x), s.Restart(x), want)
}

func checkNames(t *testing.T, s *store.Store, want ...string) {
	t.Helper()
	if got := s.Names(); !slices.Equal(got, want) {
		t.Fatalf("Names() = %.40q, want %.40q", got, want)
	}
}

func checkCounts(t *testing.T, s *store.Store, reads, writes int) {
	t.Helper()
	if r, w := s.Counts(); r != reads || w != writes {
		t.Fatalf("Counts() = %d, %d, want %d, %d", r, w, reads, writes)
	}
}

func checkDead(t *testing.T, s *store.Store, want bool) {
	t.Helper()
	if got := s.Dead(); got != want {
		t.Fatalf("Dead() = %v, want %v", got, want)
	}
}

// checkState: all that a store tells without a read or a write.
func checkState(t *testing.T, s *store.Store, p *plain) {
	t.Helper()
	checkNames(t, s, p.rising()...)
	checkCounts(t, s, p.reads, p.writes)
	checkDead(t, s, p.dead)
}

// checkTexts: all that lies in it, behind a restart without trouble.
func checkTexts(t *testing.T, s *store.Store, p *plain) {
	t.Helper()
	checkRestart(t, s, api.Trouble{}, nil)
	checkNames(t, s, p.rising()...)
	for i, name := range p.names {
		checkGet(t, s, name, p.texts[i])
	}
	checkCounts(t, s, len(p.names), 0)
	checkDead(t, s, false)
}

// The chapter's examples.

func TestExamplesOfNew(t *testing.T) {
	checkNoNew(t, trouble(0, 1, 1))
	checkNoNew(t, trouble(0, 0))
	checkNoNew(t, trouble(0, 3, 2))
	made(t, trouble(-9, 2, 5))
}

func TestExamplesOfNames(t *testing.T) {
	s := made(t, api.Trouble{})
	checkPut(t, s, "", "x", api.ErrArg)
	checkPut(t, s, strings.Repeat("a", 256), "x", nil)
	checkPut(t, s, strings.Repeat("a", 257), "x", api.ErrArg)
}

func TestExampleOfReads(t *testing.T) {
	s := made(t, trouble(0, 2))
	checkPut(t, s, "a", "x", nil)
	checkGet(t, s, "a", "x")
	checkNoGet(t, s, "a", api.ErrUnavailable)
	checkGet(t, s, "a", "x")
	checkNoGet(t, s, "b", api.ErrGone)
	checkCounts(t, s, 4, 1)
}

func TestExampleOfACrashAheadOfTheWrite(t *testing.T) {
	s := made(t, trouble(2))
	checkPut(t, s, "a", "x", nil)
	checkPut(t, s, "a", "y", api.ErrDead)
	checkNoGet(t, s, "a", api.ErrDead)
	checkPut(t, s, "b", "z", api.ErrDead)
	checkDead(t, s, true)
	checkNames(t, s, "a")
	checkCounts(t, s, 0, 2)

	checkRestart(t, s, api.Trouble{}, nil)
	checkGet(t, s, "a", "x")
	checkCounts(t, s, 1, 0)
}

func TestExampleOfACrashBehindTheWrite(t *testing.T) {
	s := made(t, trouble(-2))
	checkPut(t, s, "a", "x", nil)
	checkPut(t, s, "a", "y", api.ErrDead)
	checkRestart(t, s, api.Trouble{}, nil)
	checkGet(t, s, "a", "y")
}

func TestExampleOfARestartThatIsRefused(t *testing.T) {
	s := made(t, trouble(1))
	checkRestart(t, s, trouble(0, 0), api.ErrArg)
	checkDead(t, s, false)
	checkPut(t, s, "a", "x", api.ErrDead)
	checkRestart(t, s, trouble(0, 0), api.ErrArg)
	checkDead(t, s, true)
}

// P12.1, and of P12.4 which trouble may be

// crashes: any number may be one.
func crashes() []int {
	return []int{0, 1, -1, 2, -2, 9, -9, 1 << 31, -1 << 31, math.MaxInt, -math.MaxInt, math.MinInt}
}

// checkTrouble: New and Restart say the same of it, whatever the Crash.
func checkTrouble(t *testing.T, reads []int, ok bool) {
	t.Helper()
	for _, crash := range crashes() {
		x := api.Trouble{Reads: reads, Crash: crash}
		if !ok {
			checkNoNew(t, x)
			checkRestart(t, made(t, api.Trouble{}), x, api.ErrArg)
			continue
		}
		s := made(t, x)
		checkState(t, s, newPlain(x))
		checkRestart(t, s, x, nil)
		checkState(t, s, newPlain(x))
	}
}

func TestTroubleThatMayBe(t *testing.T) {
	many := make([]int, 5000)
	for i := range many {
		many[i] = 3*i + 1
	}
	for _, reads := range [][]int{
		nil, {}, {1}, {2}, {math.MaxInt}, {1, 2}, {1, math.MaxInt}, {math.MaxInt - 1, math.MaxInt}, {1, 2, 3}, {1, 3, 1 << 40}, many,
	} {
		checkTrouble(t, reads, true)
	}
}

func TestTroubleThatMayNotBe(t *testing.T) {
	for _, reads := range [][]int{
		{0}, {-1}, {math.MinInt}, {-math.MaxInt}, {0, 1}, {-1, 1}, {math.MinInt, 1}, {math.MinInt, math.MaxInt},
		{1, 1}, {2, 2}, {math.MaxInt, math.MaxInt}, {3, 2}, {1, 0}, {1, -1}, {1, math.MinInt}, {math.MaxInt, math.MinInt}, {math.MaxInt, 1},
		{1, 2, 2}, {1, 2, 1}, {1, 1, 2}, {2, 1, 3}, {1, 2, 0}, {1, 2, -3}, {-3, -2, -1}, {-2, -1, 0},
	} {
		checkTrouble(t, reads, false)
	}
}

// eachList: the lists of so many numbers, each from least to most.
func eachList(length, least, most int, tell func([]int)) {
	list := make([]int, 0, length)
	var more func()
	more = func() {
		if len(list) == length {
			tell(slices.Clone(list))
			return
		}
		for k := least; k <= most; k++ {
			list = append(list, k)
			more()
			list = list[:len(list)-1]
		}
	}
	more()
}

func TestTroubleOfAllShortLists(t *testing.T) {
	for length := range 5 {
		eachList(length, -1, 5, func(reads []int) {
			x := trouble(0, reads...)
			s := made(t, api.Trouble{})
			if wantMayBe(x) {
				checkRestart(t, s, x, nil)
				made(t, x)
			} else {
				checkRestart(t, s, x, api.ErrArg)
				checkNoNew(t, x)
			}
		})
	}
}

func TestTroubleThatGoesWrongAtEachPlace(t *testing.T) {
	reads := make([]int, 40)
	for i := range reads {
		reads[i] = 2*i + 1
	}
	for at := range reads {
		for _, wrong := range []int{0, -1, 2*at - 1, math.MinInt} { // the one ahead once more; below 1 at the beginning
			turned := slices.Clone(reads)
			turned[at] = wrong
			checkTrouble(t, turned, false)
		}
	}
}

func TestNew(t *testing.T) {
	s := made(t, trouble(3, 2))
	checkNames(t, s)
	checkCounts(t, s, 0, 0)
	checkDead(t, s, false)
	checkNoGet(t, s, "a", api.ErrGone)
	checkNoGet(t, s, "a", api.ErrUnavailable)
	checkPut(t, s, "a", "x", nil)
	checkPut(t, s, "b", "y", nil)
	checkPut(t, s, "c", "z", api.ErrDead)
	checkNames(t, s, "a", "b")
	checkCounts(t, s, 2, 3)
	checkDead(t, s, true)
}

// P12.2 and P12.3: names and texts

// lengthsOfNames: whether such a name may be.
func lengthsOfNames() map[int]bool {
	return map[int]bool{0: false, 1: true, 2: true, 64: true, 65: true, 255: true, 256: true, 257: false, 512: false, 65536 + 1: false}
}

func TestNamesOfEachLength(t *testing.T) {
	for length, ok := range lengthsOfNames() {
		for _, piece := range []string{"a", "\x00", "\xff", "\n", "é", "世"} { // bytes are counted, not runes
			name := strings.Repeat(piece, length+1)[:length]
			s := made(t, api.Trouble{})
			if !ok {
				checkPut(t, s, name, "x", api.ErrArg)
				checkNoGet(t, s, name, api.ErrArg)
				checkCounts(t, s, 0, 0)
				checkNames(t, s)
				continue
			}
			checkNoGet(t, s, name, api.ErrGone)
			checkPut(t, s, name, "x", nil)
			checkGet(t, s, name, "x")
			checkCounts(t, s, 2, 1)
			checkNames(t, s, name)
		}
	}
}

func TestNamesOfAnyBytes(t *testing.T) {
	s, p := made(t, api.Trouble{}), newPlain(api.Trouble{})
	for first := range 256 {
		for _, rest := range []string{"", "\x00", "a", "\xff", " \n", "\xed\xa0\x80"} {
			name := string([]byte{byte(first)}) + rest
			text := fmt.Sprintf("of %x", name)
			checkPut(t, s, name, text, nil)
			p.put(name, text)
		}
	}
	checkState(t, s, p)
	checkTexts(t, s, p)
}

func TestTextsOfAnyLength(t *testing.T) {
	rnd := rand.New(rand.NewSource(12))
	s, p := made(t, api.Trouble{}), newPlain(api.Trouble{})
	for i, length := range []int{0, 1, 2, 255, 256, 257, api.MaxLeaf, api.MaxLeaf + 1, api.MaxText, api.MaxText + 1, 5 << 20} {
		text := make([]byte, length)
		rnd.Read(text)
		name := fmt.Sprint("text ", i)
		checkPut(t, s, name, string(text), nil)
		checkGet(t, s, name, string(text))
		p.put(name, string(text))
	}
	checkTexts(t, s, p)
}

func TestATextOfNothingLiesThere(t *testing.T) {
	s := made(t, api.Trouble{})
	checkPut(t, s, "a", "", nil)
	checkGet(t, s, "a", "")
	checkNames(t, s, "a")
	checkPut(t, s, "a", "x", nil)
	checkPut(t, s, "a", "", nil)
	checkGet(t, s, "a", "")
	checkNames(t, s, "a")
}

func TestATextInThePlaceOfAnother(t *testing.T) {
	s := made(t, api.Trouble{})
	checkPut(t, s, "b", "beside", nil)
	for i, text := range []string{"x", "y", "x", "x", "a longer one", "", "\x00"} {
		checkPut(t, s, "a", text, nil)
		checkGet(t, s, "a", text)
		checkGet(t, s, "b", "beside")
		checkNames(t, s, "a", "b")
		checkCounts(t, s, 2*(i+1), i+2)
	}
}

// Names that are nearly the same are others.
func TestNamesThatAreNearTheSame(t *testing.T) {
	names := []string{"a", "A", "a ", " a", "a\x00", "aa", "a/", "á", "a\u0301", strings.Repeat("a", 255), strings.Repeat("a", 256)}
	s := made(t, api.Trouble{})
	for i, name := range names {
		checkNoGet(t, s, name, api.ErrGone)
		checkPut(t, s, name, fmt.Sprint(i), nil)
	}
	for i, name := range names {
		checkGet(t, s, name, fmt.Sprint(i))
	}
}

// P12.2: the crash

// writeUpTo: Puts of the names n1, n2, .. and, each third time, of "again", into both.
func writeUpTo(t *testing.T, s *store.Store, p *plain, count int) {
	t.Helper()
	for k := 1; k <= count; k++ {
		name, text := fmt.Sprint("n", k), fmt.Sprint("text ", k)
		if k%3 == 0 {
			name = "again"
		}
		checkPut(t, s, name, text, p.put(name, text))
		checkState(t, s, p)
	}
}

func TestEachCrash(t *testing.T) {
	for k := 1; k <= 25; k++ {
		for _, crash := range []int{k, -k} {
			s, p := made(t, trouble(crash)), newPlain(trouble(crash))
			writeUpTo(t, s, p, k-1)
			checkDead(t, s, false)
			before := newPlain(api.Trouble{})
			before.names, before.texts = slices.Clone(p.names), slices.Clone(p.texts)

			checkPut(t, s, "the last", "one", api.ErrDead)
			p.put("the last", "one")
			checkDead(t, s, true)
			checkCounts(t, s, 0, k)
			if crash < 0 {
				before.lay("the last", "one")
			}
			checkNames(t, s, before.rising()...)

			writeUpTo(t, s, p, 5) // all of them refused
			checkNoGet(t, s, "n1", api.ErrDead)
			checkNoGet(t, s, "the last", api.ErrDead)
			checkCounts(t, s, 0, k)
			checkTexts(t, s, before)
		}
	}
}

func TestACrashAtTheWriteOfANameThatIsThere(t *testing.T) {
	for crash, want := range map[int]string{3: "old", -3: "new"} {
		s := made(t, trouble(crash))
		checkPut(t, s, "a", "old", nil)
		checkPut(t, s, "b", "beside", nil)
		checkPut(t, s, "a", "new", api.ErrDead)
		checkNames(t, s, "a", "b")
		checkRestart(t, s, api.Trouble{}, nil)
		checkGet(t, s, "a", want)
		checkGet(t, s, "b", "beside")
	}
}

func TestACrashAtTheFirstWrite(t *testing.T) {
	s := made(t, trouble(1))
	checkPut(t, s, "a", "x", api.ErrDead)
	checkNames(t, s)
	checkCounts(t, s, 0, 1)
	checkRestart(t, s, api.Trouble{}, nil)
	checkNoGet(t, s, "a", api.ErrGone)

	s = made(t, trouble(-1))
	checkPut(t, s, "a", "", api.ErrDead)
	checkNames(t, s, "a")
	checkRestart(t, s, api.Trouble{}, nil)
	checkGet(t, s, "a", "")
}

func TestCrashesThatAreFarOff(t *testing.T) {
	for _, crash := range []int{0, 301, -301, 1 << 32, -1 << 32, 1<<32 + 1, -1<<32 - 1, math.MaxInt, -math.MaxInt, math.MinInt} {
		s := made(t, trouble(crash))
		for k := range 300 {
			checkPut(t, s, fmt.Sprint(k%7), fmt.Sprint(k), nil)
		}
		checkDead(t, s, false)
		checkCounts(t, s, 0, 300)
	}
}

// Reads do not bring a crash nearer, nor writes a failing read.
func TestReadsAndWritesAreCountedApart(t *testing.T) {
	s := made(t, trouble(3, 3))
	for range 2 {
		checkPut(t, s, "a", "x", nil)
	}
	checkGet(t, s, "a", "x")
	checkGet(t, s, "a", "x")
	checkNoGet(t, s, "a", api.ErrUnavailable)
	checkGet(t, s, "a", "x")
	checkCounts(t, s, 4, 2)
	checkPut(t, s, "a", "y", api.ErrDead)
	checkCounts(t, s, 4, 3)
}

// P12.2 and P12.3: which error stands first, and that what is refused is not counted

func TestTheOrderOfErrors(t *testing.T) {
	names := []string{"", strings.Repeat("a", 257), strings.Repeat("b", 100000)}
	s := made(t, trouble(1, 1))
	for _, name := range names { // ahead of the crash, and of the failing read
		checkPut(t, s, name, "x", api.ErrArg)
		checkNoGet(t, s, name, api.ErrArg)
	}
	checkCounts(t, s, 0, 0)
	checkNoGet(t, s, "a", api.ErrUnavailable) // neither was brought nearer
	checkPut(t, s, "a", "x", api.ErrDead)
	checkCounts(t, s, 1, 1)
	for _, name := range names {
		checkPut(t, s, name, "x", api.ErrArg)
		checkNoGet(t, s, name, api.ErrArg)
	}
	checkPut(t, s, "a", "x", api.ErrDead)
	checkNoGet(t, s, "a", api.ErrDead)
	checkCounts(t, s, 1, 1)
	checkDead(t, s, true)
	checkNames(t, s)
}

// A store that has crashed answers ErrDead, not what the read would have been.
func TestACrashStandsAheadOfFailingReads(t *testing.T) {
	s := made(t, trouble(-1, 1, 2))
	checkPut(t, s, "a", "x", api.ErrDead)
	for range 3 {
		checkNoGet(t, s, "a", api.ErrDead)
		checkNoGet(t, s, "b", api.ErrDead)
	}
	checkCounts(t, s, 0, 1)
}

// P12.3: reads that fail

func TestEachReadThatFails(t *testing.T) {
	const most = 20
	for k := 1; k <= most; k++ {
		for _, failing := range []string{"a", "b"} { // one of them is there
			s := made(t, trouble(0, k))
			checkPut(t, s, "a", "x", nil)
			for read := 1; read <= most+2; read++ {
				switch {
				case read == k:
					checkNoGet(t, s, failing, api.ErrUnavailable)
				case read%2 == 0:
					checkNoGet(t, s, "b", api.ErrGone)
				default:
					checkGet(t, s, "a", "x")
				}
				checkCounts(t, s, read, 1)
				checkDead(t, s, false)
				checkNames(t, s, "a")
			}
			checkPut(t, s, "b", "y", nil)
			checkGet(t, s, "b", "y")
		}
	}
}

// Every set of the first eight reads.
func TestEachSetOfReadsThatFail(t *testing.T) {
	const most = 8
	for set := range 1 << most {
		x := api.Trouble{}
		for k := 1; k <= most; k++ {
			if set>>(k-1)&1 == 1 {
				x.Reads = append(x.Reads, k)
			}
		}
		s := made(t, x)
		checkPut(t, s, "a", "x", nil)
		for k := 1; k <= most+2; k++ {
			if k <= most && set>>(k-1)&1 == 1 {
				checkNoGet(t, s, "a", api.ErrUnavailable)
			} else {
				checkGet(t, s, "a", "x")
			}
		}
		checkCounts(t, s, most+2, 1)
	}
}

func TestManyReadsThatFail(t *testing.T) {
	rnd := rand.New(rand.NewSource(3))
	var x api.Trouble
	fails := make(map[int]bool)
	for k := 1; k <= 4000; k++ {
		if rnd.Intn(3) == 0 {
			x.Reads = append(x.Reads, k)
			fails[k] = true
		}
	}
	x.Reads = append(x.Reads, math.MaxInt-1, math.MaxInt)
	s := made(t, x)
	checkPut(t, s, "a", "x", nil)
	for k := 1; k <= 4100; k++ {
		if fails[k] {
			checkNoGet(t, s, "a", api.ErrUnavailable)
		} else {
			checkGet(t, s, "a", "x")
		}
	}
}

// P12.4

func TestRestartOfAStoreThatIsAlive(t *testing.T) {
	s := made(t, trouble(4, 2, 3))
	checkPut(t, s, "a", "x", nil)
	checkPut(t, s, "b", "y", nil)
	checkGet(t, s, "a", "x")
	checkRestart(t, s, trouble(-2, 1), nil)
	checkCounts(t, s, 0, 0)
	checkDead(t, s, false)
	checkNames(t, s, "a", "b")
	checkNoGet(t, s, "a", api.ErrUnavailable) // the new trouble, from 1 on
	checkGet(t, s, "a", "x")
	checkGet(t, s, "b", "y") // the old one is gone
	checkPut(t, s, "a", "z", nil)
	checkPut(t, s, "c", "w", api.ErrDead)
	checkCounts(t, s, 3, 2)
	checkRestart(t, s, api.Trouble{}, nil)
	checkGet(t, s, "a", "z")
	checkGet(t, s, "c", "w")
}

func TestRestartsOfNothing(t *testing.T) {
	s := made(t, api.Trouble{})
	for range 5 {
		checkRestart(t, s, trouble(1, 1), nil)
		checkNames(t, s)
		checkCounts(t, s, 0, 0)
		checkNoGet(t, s, "a", api.ErrUnavailable)
		checkPut(t, s, "a", "x", api.ErrDead)
		checkCounts(t, s, 1, 1)
		checkDead(t, s, true)
	}
}

// A crash comes again behind each restart that tells one.
func TestCrashBehindCrash(t *testing.T) {
	s, p := made(t, trouble(1)), newPlain(trouble(1))
	for round := range 40 {
		writeUpTo(t, s, p, 6)
		checkDead(t, s, true)
		x := trouble(round%5+1, round%3+1)
		if round%2 == 1 {
			x.Crash = -x.Crash
		}
		checkRestart(t, s, x, p.restart(x))
		checkState(t, s, p)
		for _, name := range []string{"n1", "n4", "again", "none"} {
			want, err := p.get(name)
			got, gotErr := s.Get(name)
			checkOnly(t, "Get", gotErr, err)
			if got != want {
				t.Fatalf("Get(%q) = %q, want %q", name, got, want)
			}
		}
	}
	checkTexts(t, s, p)
}

// refusedTroubles: none of which may be, though a part of each one may.
func refusedTroubles() []api.Trouble {
	return []api.Trouble{trouble(1, 0), trouble(-1, 1, 1), trouble(0, 1, 2, 3, 3), trouble(5, -1), trouble(0, math.MaxInt, 1)}
}

func TestARefusedRestartLeavesAStoreAlive(t *testing.T) {
	s := made(t, trouble(3, 2, 4))
	refuse := func(reads, writes int) {
		t.Helper()
		for _, x := range refusedTroubles() {
			checkRestart(t, s, x, api.ErrArg)
			checkCounts(t, s, reads, writes)
			checkDead(t, s, false)
		}
	}
	refuse(0, 0)
	checkPut(t, s, "a", "x", nil)
	refuse(0, 1)
	checkGet(t, s, "a", "x")
	refuse(1, 1)
	checkNoGet(t, s, "a", api.ErrUnavailable)
	checkGet(t, s, "a", "x")
	refuse(3, 1)
	checkNoGet(t, s, "a", api.ErrUnavailable)
	checkPut(t, s, "b", "y", nil)
	refuse(4, 2)
	checkNames(t, s, "a", "b")
	checkPut(t, s, "c", "z", api.ErrDead)
	checkNames(t, s, "a", "b")
}

func TestARefusedRestartLeavesAStoreDead(t *testing.T) {
	s := made(t, trouble(-2, 2))
	checkPut(t, s, "a", "x", nil)
	checkGet(t, s, "a", "x")
	checkPut(t, s, "b", "y", api.ErrDead)
	for _, x := range refusedTroubles() {
		checkRestart(t, s, x, api.ErrArg)
		checkDead(t, s, true)
		checkCounts(t, s, 1, 2)
		checkNames(t, s, "a", "b")
		checkPut(t, s, "c", "z", api.ErrDead)
		checkNoGet(t, s, "a", api.ErrDead)
	}
	checkRestart(t, s, api.Trouble{}, nil)
	checkGet(t, s, "a", "x")
	checkGet(t, s, "b", "y")
}

// P12.5

func TestNamesRise(t *testing.T) {
	s := made(t, api.Trouble{})
	checkNames(t, s)
	checkPut(t, s, "m", "1", nil)
	checkNames(t, s, "m")
	checkPut(t, s, "m", "2", nil)
	checkNames(t, s, "m")
	for _, name := range []string{"\xff", "z", "a\x00", "a", "\x00", "aa", "B", "leaf/10", "leaf/2", "leaf/1", "é", "世", "\x7f", "\x80"} {
		checkPut(t, s, name, "x", nil)
	}
	checkNames(t, s, "\x00", "B", "a", "a\x00", "aa", "leaf/1", "leaf/10", "leaf/2", "m", "z", "\x7f", "\x80", "é", "世", "\xff")
}

func TestManyNames(t *testing.T) {
	rnd := rand.New(rand.NewSource(5))
	s, p := made(t, api.Trouble{}), newPlain(api.Trouble{})
	for k := range 3000 {
		name := make([]byte, 1+rnd.Intn(3))
		for i := range name {
			name[i] = byte(rnd.Intn(16) * 17)
		}
		checkPut(t, s, string(name), fmt.Sprint(k), p.put(string(name), fmt.Sprint(k)))
	}
	first := s.Names()
	checkState(t, s, p)
	for i := 1; i < len(first); i++ {
		if first[i-1] >= first[i] {
			t.Fatalf("%q stands ahead of %q", first[i-1], first[i])
		}
	}
	for range 20 { // however the map is gone through
		checkNames(t, s, first...)
	}
	checkTexts(t, s, p)
}

// Names, Counts and Dead are no reads: asked at any time, they bring nothing nearer.
func TestWhatIsToldIsNotCounted(t *testing.T) {
	s := made(t, trouble(2, 2))
	ask := func() {
		for range 5 {
			s.Names()
			s.Counts()
			s.Dead()
		}
	}
	ask()
	checkPut(t, s, "a", "x", nil)
	ask()
	checkGet(t, s, "a", "x")
	ask()
	checkNoGet(t, s, "a", api.ErrUnavailable)
	ask()
	checkPut(t, s, "a", "y", api.ErrDead)
	ask()
	checkNames(t, s, "a")
	checkCounts(t, s, 2, 2)
	checkDead(t, s, true)
}

// R3

func checkNotThere(t *testing.T, s *store.Store) {
	t.Helper()
	for range 2 {
		for _, name := range []string{"a", "", strings.Repeat("a", 256), strings.Repeat("a", 257)} {
			checkPut(t, s, name, "x", api.ErrNil)
			checkPut(t, s, name, "", api.ErrNil)
			checkNoGet(t, s, name, api.ErrNil)
		}
		for _, x := range append(refusedTroubles(), api.Trouble{}, trouble(0, 1), trouble(-1, 1, 2), trouble(math.MinInt)) {
			checkRestart(t, s, x, api.ErrNil)
		}
		if names := s.Names(); len(names) != 0 {
			t.Fatalf("Names() = %q of no store", names)
		}
		checkCounts(t, s, 0, 0)
		checkDead(t, s, false)
	}
}

func TestAStoreThatIsNotThere(t *testing.T) { checkNotThere(t, nil) }

func TestAStoreThatNoCallMade(t *testing.T) {
	checkNotThere(t, &store.Store{})
	checkNotThere(t, new(store.Store))
	var s store.Store
	checkNotThere(t, &s)
}

// R5

func TestTwoStores(t *testing.T) {
	x := trouble(3, 2)
	one, other := made(t, x), made(t, x)
	checkPut(t, one, "a", "x", nil)
	checkNames(t, other)
	checkCounts(t, other, 0, 0)
	checkNoGet(t, other, "a", api.ErrGone)
	checkGet(t, one, "a", "x")
	checkNoGet(t, one, "a", api.ErrUnavailable)
	checkPut(t, one, "b", "y", nil)
	checkPut(t, one, "c", "z", api.ErrDead)
	checkDead(t, other, false)
	checkPut(t, other, "a", "another", nil)
	checkNoGet(t, other, "a", api.ErrUnavailable)
	checkGet(t, other, "a", "another")
	checkRestart(t, one, api.Trouble{}, nil)
	checkCounts(t, other, 3, 1)
	checkGet(t, one, "a", "x")
	checkNames(t, other, "a")
}

// R4

func TestTroubleIsLeftAsItWas(t *testing.T) {
	room := []int{7, 2, 4, 9, -1, 0}
	want := slices.Clone(room)
	x := api.Trouble{Reads: room[1:3], Crash: -2}
	s := made(t, x)
	use := func() {
		for range 3 {
			s.Put("a", "x")
			s.Get("a")
		}
	}
	use()
	checkRestart(t, s, x, nil)
	use()
	checkRestart(t, s, api.Trouble{Reads: room[1:5]}, api.ErrArg)
	store.New(api.Trouble{Reads: room[:3]})
	if !slices.Equal(room, want) || x.Crash != -2 || len(x.Reads) != 2 {
		t.Errorf("the trouble that was handed in is %v, %v", room, x)
	}
}

// checkSecondReadFails: and no other one, whatever was written into the list by which that was told.
func checkSecondReadFails(t *testing.T, s *store.Store) {
	t.Helper()
	checkGet(t, s, "a", "x")
	checkNoGet(t, s, "a", api.ErrUnavailable)
	checkGet(t, s, "a", "x")
	checkGet(t, s, "a", "x")
}

func TestTroubleIsKeptByItsContent(t *testing.T) {
	reads := []int{2, 1000}
	x := api.Trouble{Reads: reads}
	s := made(t, x)
	checkPut(t, s, "a", "x", nil)
	reads[0], reads[1] = 1, 3
	x.Crash = 2
	checkSecondReadFails(t, s)
	checkPut(t, s, "a", "x", nil)

	reads[0], reads[1] = 2, 1000
	checkRestart(t, s, api.Trouble{Reads: reads}, nil)
	reads[0], reads[1] = 1, 3
	checkSecondReadFails(t, s)

	reads[0], reads[1] = 3, 3 // a restart that is refused takes nothing over
	checkRestart(t, s, trouble(0, 2), nil)
	checkRestart(t, s, api.Trouble{Reads: reads}, api.ErrArg)
	checkSecondReadFails(t, s)
}

func TestTwoStoresOfOneTrouble(t *testing.T) {
	x := trouble(0, 2)
	one, other := made(t, x), made(t, x)
	checkPut(t, one, "a", "x", nil)
	checkPut(t, other, "a", "x", nil)
	checkSecondReadFails(t, one)
	checkSecondReadFails(t, other)
}

func TestNamesAreNewMemory(t *testing.T) {
	s := made(t, api.Trouble{})
	want := []string{"a", "b", "c", "d", "e"}
	for _, name := range want {
		checkPut(t, s, name, "x", nil)
	}
	first, second := s.Names(), s.Names()
	room := first[:cap(first)]
	for i := range room {
		room[i] = "mark"
	}
	if slices.Contains(second[:cap(second)], "mark") {
		t.Error("two answers of Names share memory")
	}
	checkNames(t, s, want...)
	for _, name := range want {
		checkGet(t, s, name, "x")
	}
	checkNoGet(t, s, "mark", api.ErrGone)
}

// What Names told stays, whatever is put in later.
func TestNamesThatWereToldStay(t *testing.T) {
	s := made(t, api.Trouble{})
	checkPut(t, s, "b", "x", nil)
	checkPut(t, s, "d", "x", nil)
	told := s.Names()
	for _, name := range []string{"a", "c", "e"} {
		checkPut(t, s, name, "y", nil)
	}
	if !slices.Equal(told, []string{"b", "d"}) {
		t.Errorf("what was told is %q by now", told)
	}
}

// at: where a text's bytes lie.
func at(text string) *byte { return unsafe.StringData(text) }

func TestTextsAreNewMemory(t *testing.T) {
	s := made(t, api.Trouble{})
	name, text := strings.Repeat("name", 5), strings.Repeat("text", 5)
	checkPut(t, s, name, text, nil)
	first, _ := s.Get(name)
	second, _ := s.Get(name)
	if at(first) == at(text) || at(first) == at(second) {
		t.Error("a text shares memory with what was put in, or with another answer")
	}
	one, other := s.Names(), s.Names()
	if at(one[0]) == at(name) || at(one[0]) == at(other[0]) {
		t.Error("a name shares memory with what was put in, or with another answer")
	}
}

// Names and texts are kept by their content: who has the bytes under them may write into these.
func TestPutKeepsTheContent(t *testing.T) {
	s := made(t, api.Trouble{})
	for _, want := range []string{"text", "next"} { // the second time the name is there
		name, text := []byte("name"), []byte(want)
		checkPut(t, s, unsafe.String(&name[0], len(name)), unsafe.String(&text[0], len(text)), nil)
		copy(name, "turn")
		copy(text, "over")
		checkGet(t, s, "name", want)
		checkNoGet(t, s, "turn", api.ErrGone)
		checkNames(t, s, "name")
	}
}

// P12.6, and all of it: scripts of calls, held against the plain list.

// step is one call of a script.
type step struct {
	call       byte // P, G, R
	name, text string
	trouble    api.Trouble
}

func (x step) String() string {
	return fmt.Sprintf("%c(%.20q, %.20q, %v)", x.call, x.name, x.text, x.trouble)
}

// run: one step of both, which must answer the same.
func (x step) run(t *testing.T, s *store.Store, p *plain) {
	t.Helper()
	switch x.call {
	case 'P':
		checkPut(t, s, x.name, x.text, p.put(x.name, x.text))
	case 'G':
		want, err := p.get(x.name)
		if err != nil {
			checkNoGet(t, s, x.name, err)
		} else {
			checkGet(t, s, x.name, want)
		}
	case 'R':
		checkRestart(t, s, x.trouble, p.restart(x.trouble))
	}
}

// Every script of five steps out of these, with every crash and every set of failing reads that could be met in it.
func TestAllShortScripts(t *testing.T) {
	steps := []step{
		{call: 'P', name: "a", text: "x"}, {call: 'P', name: "a", text: "y"}, {call: 'G', name: "a"},
		{call: 'G', name: "b"}, {call: 'R', trouble: trouble(-1, 1)},
	}
	for crash := -3; crash <= 3; crash++ {
		for _, reads := range [][]int{nil, {1}, {2}, {1, 2}, {1, 3}, {2, 3}, {1, 2, 3}} {
			x := trouble(crash, reads...)
			eachList(5, 0, len(steps)-1, func(script []int) {
				s, p := made(t, x), newPlain(x)
				for _, i := range script {
					steps[i].run(t, s, p)
				}
				checkState(t, s, p)
			})
		}
	}
}

// drawTrouble: small numbers, so that it is met; now and then such as may not be.
func drawTrouble(rnd *rand.Rand) api.Trouble {
	x := api.Trouble{Crash: rnd.Intn(121) - 60}
	last := 0
	for range rnd.Intn(12) {
		last += 1 + rnd.Intn(9)
		x.Reads = append(x.Reads, last)
	}
	if len(x.Reads) > 0 && rnd.Intn(4) == 0 {
		x.Reads[rnd.Intn(len(x.Reads))] = rnd.Intn(6) - 2
	}
	return x
}

func drawName(rnd *rand.Rand) string {
	if rnd.Intn(30) == 0 {
		return strings.Repeat("n", []int{0, 255, 256, 257}[rnd.Intn(4)])
	}
	return string([]byte{byte(rnd.Intn(5) * 60), byte(rnd.Intn(5) * 60)}[:1+rnd.Intn(2)])
}

func drawStep(rnd *rand.Rand, k int) step {
	switch n := rnd.Intn(100); {
	case n < 48:
		return step{call: 'P', name: drawName(rnd), text: strings.Repeat(fmt.Sprint(k, " "), rnd.Intn(4))}
	case n < 96:
		return step{call: 'G', name: drawName(rnd)}
	}
	return step{call: 'R', trouble: drawTrouble(rnd)}
}

func TestLongScripts(t *testing.T) {
	for seed := range int64(60) {
		rnd := rand.New(rand.NewSource(seed))
		x := drawTrouble(rnd)
		for !wantMayBe(x) {
			checkNoNew(t, x)
			x = drawTrouble(rnd)
		}
		s, p := made(t, x), newPlain(x)
		for k := range 1500 {
			drawStep(rnd, k).run(t, s, p)
			checkState(t, s, p)
		}
		checkTexts(t, s, p)
	}
}

// The same calls are answered the same, whichever store they are made of.
func TestTheSameScriptTwice(t *testing.T) {
	tell := func() string {
		rnd := rand.New(rand.NewSource(77))
		s := made(t, trouble(40, 3, 5, 8))
		var all strings.Builder
		for k := range 3000 {
			x := drawStep(rnd, k)
			switch x.call {
			case 'P':
				fmt.Fprintln(&all, s.Put(x.name, x.text))
			case 'G':
				text, err := s.Get(x.name)
				fmt.Fprintln(&all, text, err)
			case 'R':
				fmt.Fprintln(&all, s.Restart(x.trouble))
			}
			reads, writes := s.Counts()
			fmt.Fprintln(&all, reads, writes, s.Dead(), s.Names())
		}
		return all.String()
	}
	first := tell()
	for range 3 {
		if tell() != first {
			t.Fatal("the same calls are answered otherwise")
		}
	}
}

// Between two Restarts there is one crash, at the write that Crash says, and what lies there behind it are the writes ahead of it, and that one, if Crash is below 0.
func TestOneCrashBetweenTwoRestarts(t *testing.T) {
	const most = 12
	for crash := -most - 2; crash <= most+2; crash++ {
		s := made(t, trouble(crash, 1, 2, 4))
		met := 0
		for k := 1; k <= most; k++ {
			dead := s.Dead()
			err := s.Put(fmt.Sprintf("%02d", k), "x")
			s.Get("01")
			if !dead && s.Dead() {
				met++
				checkOnly(t, "Put", err, api.ErrDead)
				if k != crash && k != -crash {
					t.Fatalf("Crash %d is met at the write %d", crash, k)
				}
			}
		}
		lying, want := most, 0
		if crash != 0 && max(crash, -crash) <= most {
			lying, want = max(crash-1, -crash), 1
		}
		if met != want {
			t.Fatalf("Crash %d is met %d times, want %d", crash, met, want)
		}
		names := s.Names()
		if len(names) != lying {
			t.Fatalf("behind Crash %d there are %d texts, want %d", crash, len(names), lying)
		}
		for i, name := range names {
			if name != fmt.Sprintf("%02d", i+1) {
				t.Fatalf("behind Crash %d there is %q at %d", crash, name, i)
			}
		}
	}
}
